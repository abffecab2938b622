/- 4 of this claim's texts, one behind the other. -/
import Derived.Test.YthcpmbolnmlohaaDoorPart2
import Derived.Deep.DeepCutAuto
import Derived.Lib.SmallJoins
import Derived.Test.YthcpmbolnmlohaaDoorPart1
import Derived.Handed
import Derived.Lay
import Derived.MakeChecks
import Derived.Lib.LaidTab
import Derived.Stop.LaidErr
/- The walks of the program's pairText and SetText. Written by implsettext.py. -/
namespace Go.Proofs.YthcpmbolnmlohaaDoor
open Go.RowKit

theorem join_flat (p : ByteArray) (r : List ByteArray) : joinB (p :: r) semi = p ++ flat r := by
  apply ByteArray.ext
  apply Array.toList_inj.1
  show Lib.join ((p :: r).map (·.data.toList)) semi.data.toList = _
  rw [List.map_cons, Lib.join_cons]
  have e : ∀ r : List ByteArray, Lib.joinTail semi.data.toList (r.map (·.data.toList)) = (flat r).data.toList := by
    intro r
    induction r with
    | nil => rfl
    | cons q r ih =>
      have e2 : (flat (q :: r)).data.toList = semi.data.toList ++ q.data.toList ++ (flat r).data.toList := by show (semi ++ q ++ flat r).data.toList = _; simp
      rw [e2, ← ih]
      unfold Lib.joinTail
      simp
  rw [e]; simp
theorem len_snoc (L : List ByteArray) (x : ByteArray) : (L ++ [x]).length = L.length + 1 := by simp
theorem own_cast {w : World} {B n m : Nat} {t : TypeId} {v : Value} {xs ys : List Value} (h : w.ownsRow B t 1 v n xs) (hn : n = m) (hx : xs = ys) : w.ownsRow B t 1 v m ys := hn ▸ hx ▸ h
theorem joinB_nil (sep : ByteArray) : joinB [] sep = ⟨#[]⟩ := rfl
set_option maxRecDepth 10000 in
set_option maxHeartbeats 1000000 in
theorem pairText_any (na va : ByteArray) (w : World) (h1 : na.size ≤ 1048576) (h2 : va.size ≤ 1048576) :
    Calls Tryd.prog 51 #[pairV na va] w fun e w' => e = .returned (.string (na ++ equ ++ va)) ∧ Below w.heap.size w w' := by
  have z0 : (na ++ ⟨#[61]⟩ : ByteArray).size ≤ 1048577 := by rw [ByteArray.size_append]; show na.size + 1 ≤ 1048577; omega
  unfold pairV
  go_enter Tryd.func51, Tryd.ntmps51
  go_wp2
  go_ret
  exact ⟨rfl, (Below.refl _ _).alloc (Nat.le_refl _) _⟩
theorem o1_len (dm : ByteArray) : (o1 dm).length ≤ 1 := by unfold o1; split <;> simp
theorem o2_len (dm : ByteArray) : (o2 dm).length ≤ 1 := by unfold o2; split <;> simp
theorem o3_len (ag : Int) : (o3 ag).length ≤ 1 := by unfold o3; split <;> simp
theorem o4_len (b : Bool) : (o4 b).length ≤ 1 := by unfold o4; split <;> simp
theorem o5_len (m : Int) : (o5 m).length ≤ 1 := by
  unfold o5
  split
  · simp
  · split <;> simp
theorem o6_len (b : Bool) : (o6 b).length ≤ 1 := by unfold o6; split <;> simp
set_option maxRecDepth 10000 in
set_option maxHeartbeats 16000000 in
theorem setText_any (na va dm pa : ByteArray) (ag : Int) (se : Bool) (mo : Int) (pt : Bool) (w : World) (hG : MaxI w) (hT : PowI w) (hdm : dm.size ≤ 1048576) :
    Calls Tryd.prog 21 #[setV na va dm pa ag se mo pt] w fun e w' => e = .returned (.string (setTx na va dm pa ag se mo pt)) ∧ Below w.heap.size w w' := by
  have K1 : Hid (∀ W, Below w.heap.size w W → Calls Tryd.prog 19 #[.agg #[.string na, .string va, .string dm, .string pa, .int .i64 ag, .bool se, .int .i64 mo, .bool pt]] W fun e w' => e = .returned (.bool (setB na va dm pa ag mo)) ∧ Below W.heap.size W w') := fun W hb => setRight_any na va dm pa ag se mo pt W (hG.on hb) hdm
  have HX : Hid (setTx na va dm pa ag se mo pt = if setB na va dm pa ag mo = true then setT na va dm pa ag se mo pt else ⟨#[]⟩) := rfl
  by_cases hR : setB na va dm pa ag mo = true
  case neg =>
    rw [Bool.not_eq_true] at hR
    rw [hR] at K1 HX
    clear hG hT hdm
    generalize setTx na va dm pa ag se mo pt = R at *
    unfold setV
    go_enter Tryd.func21, Tryd.ntmps21
    go_wp2_with fail
    refine (K1.out _ ((Below.refl _ _).alloc (Nat.le_refl _) _)).mono ?_
    rintro e w1 ⟨rfl, hb1⟩
    go_wp2
    go_ret
    exact ⟨ret_text HX.out.symm, ((Below.refl _ _).alloc (Nat.le_refl _) _).trans (hb1.mono (by simp))⟩
  obtain ⟨h1, h2, h3, h4, h5, h6⟩ := setB_parts hR
  rw [hR, if_pos rfl] at HX
  rw [hR] at K1
  have K2 : Hid (∀ W, Calls Tryd.prog 51 #[.agg #[.string na, .string va]] W fun e w' => e = .returned (.string (na ++ equ ++ va)) ∧ Below W.heap.size W w') := fun W => pairText_any na va W (by omega) (by omega)
  have K3 : Hid (0 ≤ ag → ∀ W, Below w.heap.size w W → Calls Tryd.prog 52 #[.int .i64 ag, .int .i64 10] W fun e w' => e = .returned (.string (decB ag)) ∧ Below W.heap.size W w') := fun h0 W hb => dec_call ag W (hT.on hb) h0 (by omega)
  have hd := decB_size (n := ag) (by omega) (by omega)
  have HS : Hid (setT na va dm pa ag se mo pt = joinB ([na ++ equ ++ va] ++ o1 dm ++ o2 pa ++ o3 ag ++ o4 se ++ o5 mo ++ o6 pt) semi ∧ (setT na va dm pa ag se mo pt).size ≤ 1000) := by
    refine ⟨?_, ?_⟩
    · rw [setT_flat, ← join_flat]
      simp only [List.cons_append, List.append_assoc, List.nil_append]
    · have s0 := setT0_size h1 h2
      have s1 := setT1_size (dm := dm) s0 h3
      have s2 := setT2_size (pa := pa) s1 h4
      have s3 := setT3_size (ag := ag) s2 (by omega) (by omega)
      have s4 := setT4_size (se := se) s3
      have s5 := setT5_size (mo := mo) s4
      unfold setT setT6
      split
      · rw [ByteArray.size_append]; show _ + 13 ≤ 1000; omega
      · omega
  have E1 : Hid (o1 dm = if dm.toList.isEmpty = true then [] else [⟨#[68, 111, 109, 97, 105, 110, 61]⟩ ++ dm]) := rfl
  have E2 : Hid (o2 pa = if pa.toList.isEmpty = true then [] else [⟨#[80, 97, 116, 104, 61]⟩ ++ pa]) := rfl
  have E3 : Hid (o3 ag = if 0 ≤ ag then [⟨#[77, 97, 120, 45, 65, 103, 101, 61]⟩ ++ decB ag] else []) := rfl
  have E4 : Hid (o4 se = if se = true then [⟨#[83, 101, 99, 117, 114, 101]⟩] else []) := rfl
  have E5 : Hid (o5 mo = if mo = 1 then [⟨#[83, 97, 109, 101, 83, 105, 116, 101, 61, 83, 116, 114, 105, 99, 116]⟩] else if mo = 2 then [⟨#[83, 97, 109, 101, 83, 105, 116, 101, 61, 78, 111, 110, 101]⟩] else []) := rfl
  have E6 : Hid (o6 pt = if pt = true then [⟨#[80, 97, 114, 116, 105, 116, 105, 111, 110, 101, 100]⟩] else []) := rfl
  have n1 := o1_len dm
  have n2 := o2_len pa
  have n3 := o3_len ag
  have n4 := o4_len se
  have n5 := o5_len mo
  have n6 := o6_len pt
  obtain ⟨i0, hi, hy0, hy1, hy2⟩ := info_parts infoStr
  clear hG hT hdm
  rw [HS.out.1] at HX
  have HZ : Hid ((joinB ([na ++ equ ++ va] ++ o1 dm ++ o2 pa ++ o3 ag ++ o4 se ++ o5 mo ++ o6 pt) semi).size ≤ 1000) := by rw [← HS.out.1]; exact HS.out.2
  clear HS
  generalize setTx na va dm pa ag se mo pt = R at *
  generalize na ++ equ ++ va = x0 at *
  generalize decB ag = dd at *
  unfold setV
  go_enter Tryd.func21, Tryd.ntmps21
  go_wp2_with fail
  refine (K1.out _ ((Below.refl _ _).alloc (Nat.le_refl _) _)).mono ?_
  rintro e w1 ⟨rfl, hb1⟩
  have T1 := Cells.below (W := (w.alloc (.cells #[.string na, .string va, .string dm, .string pa, .int .i64 ag, .bool se, .int .i64 mo, .bool pt] 32))) (L := [(⟨w.heap.size, 0, none⟩, .string na), (⟨w.heap.size, 1, none⟩, .string va), (⟨w.heap.size, 2, none⟩, .string dm), (⟨w.heap.size, 3, none⟩, .string pa), (⟨w.heap.size, 4, none⟩, .int .i64 ag), (⟨w.heap.size, 5, none⟩, .bool se), (⟨w.heap.size, 6, none⟩, .int .i64 mo), (⟨w.heap.size, 7, none⟩, .bool pt)]) ⟨by simp, by simp, by simp, by simp, by simp, by simp, by simp, by simp, trivial⟩ hb1
  simp only [Cells] at T1
  obtain ⟨p0, p1, p2, p3, p4, p5, p6, p7, -⟩ := T1
  have B1 : Hid (Below w.heap.size w w1) := ((Below.refl _ _).alloc (Nat.le_refl _) _).trans (hb1.mono (by simp))
  have hz1 : w.heap.size < w1.heap.size := by have := hb1.size; simp at this; omega
  clear hb1 K1
  go_wp2_with fail
  refine (K2.out _).mono ?_
  rintro e w2 ⟨rfl, hb2⟩
  have r2 : w2.cell? ⟨w.heap.size, 2, none⟩ = some (.string dm) := by rw [(bcell hb2).1 _ _ hz1]; exact p2
  have r3 : w2.cell? ⟨w.heap.size, 3, none⟩ = some (.string pa) := by rw [(bcell hb2).1 _ _ hz1]; exact p3
  have r4 : w2.cell? ⟨w.heap.size, 4, none⟩ = some (.int .i64 ag) := by rw [(bcell hb2).1 _ _ hz1]; exact p4
  have r5 : w2.cell? ⟨w.heap.size, 5, none⟩ = some (.bool se) := by rw [(bcell hb2).1 _ _ hz1]; exact p5
  have r6 : w2.cell? ⟨w.heap.size, 6, none⟩ = some (.int .i64 mo) := by rw [(bcell hb2).1 _ _ hz1]; exact p6
  have r7 : w2.cell? ⟨w.heap.size, 7, none⟩ = some (.bool pt) := by rw [(bcell hb2).1 _ _ hz1]; exact p7
  have B2 : Hid (Below w.heap.size w w2) := B1.out.trans (hb2.mono B1.out.size)
  have hz2 : w.heap.size < w2.heap.size := Nat.lt_of_lt_of_le hz1 hb2.size
  clear hb2 p0 p1 p2 p3 p4 p5 p6 p7 K2
  have HC : Hid (∀ W, Below w2.heap.size w2 W → W.cell? ⟨w.heap.size, 2, none⟩ = some (.string dm) ∧ W.cell? ⟨w.heap.size, 3, none⟩ = some (.string pa) ∧ W.cell? ⟨w.heap.size, 4, none⟩ = some (.int .i64 ag) ∧ W.cell? ⟨w.heap.size, 5, none⟩ = some (.bool se) ∧ W.cell? ⟨w.heap.size, 6, none⟩ = some (.int .i64 mo) ∧ W.cell? ⟨w.heap.size, 7, none⟩ = some (.bool pt)) := fun W hb => ⟨by rw [(bcell hb).1 _ _ hz2]; exact r2, by rw [(bcell hb).1 _ _ hz2]; exact r3, by rw [(bcell hb).1 _ _ hz2]; exact r4, by rw [(bcell hb).1 _ _ hz2]; exact r5, by rw [(bcell hb).1 _ _ hz2]; exact r6, by rw [(bcell hb).1 _ _ hz2]; exact r7⟩
  clear r2 r3 r4 r5 r6 r7
  have O1 : Hid ((w2.alloc (.cells #[.string x0] 9)).ownsRow w2.heap.size 9 1 (.slice (some ⟨w2.heap.size, 0, none⟩) 1 1) [x0].length (strCells [x0])) := own_one w2 _ x0
  have A1 : Hid (Below w2.heap.size w2 (w2.alloc (.cells #[.string x0] 9))) := (Below.refl _ _).alloc (Nat.le_refl _) _
  obtain ⟨c2, c3, c4, c5, c6, c7⟩ := HC.out _ A1.out
  go_upto_if 16 with fail
  generalize w2.alloc (.cells #[.string x0] 9) = wA at *
  have t0 := A1.out.size
  go_cut [3] (fun s wx => ∃ v, s = v ∧ Hid (wx.ownsRow w2.heap.size 9 1 v ([x0] ++ o1 dm).length (strCells ([x0] ++ o1 dm))) ∧ Hid (Below w2.heap.size w2 wx))
  case first =>
    cases hdm : dm.toList.isEmpty with
    | true =>
      have HE : Hid (o1 dm = []) := by show _ = _; rw [E1.out, if_pos hdm]
      go_wp2_with fail
      go_meet
      case rel => exact ⟨_, rfl, by rw [HE.out, List.append_nil]; exact O1.out, A1⟩
    | false =>
      have HE : Hid (o1 dm = [(⟨#[68, 111, 109, 97, 105, 110, 61]⟩ : ByteArray) ++ dm]) := by show _ = _; rw [E1.out, if_neg (by rw [hdm]; decide)]
      go_wp2_with (at_builtin; go_must (refine wpList_append_own _ rfl _ _ 52 rfl w2.heap.size 9 i0 (.string ⟨#[]⟩) 1 16 Tryd.underlying52 hi hy0 hy1 hy2 rfl (by decide) _ _ _ rfl (O1.out.alloc _) ⟨wA.heap.size, 0, none⟩ 1 1 [.string ((⟨#[68, 111, 109, 97, 105, 110, 61]⟩ : ByteArray) ++ dm)] rfl rfl (cell_one_new _ _ _) (by intro u hu; simp at hu; subst hu; rfl) (by unfold maxLen; show 1 + 1 ≤ _; omega) (by show (1 + 1) * 16 ≤ _; omega) (by simp; omega) ?_))
      intro v4 w4 ho hg _
      rw [strCells_snoc] at ho
      have O4 : Hid (w4.ownsRow w2.heap.size 9 1 v4 ([x0] ++ [(⟨#[68, 111, 109, 97, 105, 110, 61]⟩ : ByteArray) ++ dm]).length (strCells ([x0] ++ [(⟨#[68, 111, 109, 97, 105, 110, 61]⟩ : ByteArray) ++ dm]))) := own_cast ho (rfl) (by simp)
      have A4 : Hid (Below w2.heap.size w2 w4) := (A1.out.alloc A1.out.size _).grown hg (by have := A1.out.size; simp; omega) (fun j hj => (O1.out.lt j hj).1)
      clear ho hg
      go_wp2_with fail
      go_meet
      case rel => exact ⟨_, rfl, by rw [HE.out]; exact O4.out, A4⟩
  case rest =>
    clear c2 c3 c4 c5 c6 c7
    obtain ⟨v10, rfl, R1, Q1⟩ := hcut
    obtain ⟨c2, c3, c4, c5, c6, c7⟩ := HC.out _ Q1.out
    have t1 := Q1.out.size
    go_upto_if 25 with fail
    go_cut [3] (fun s wx => ∃ v, s = v ∧ Hid (wx.ownsRow w2.heap.size 9 1 v ([x0] ++ o1 dm ++ o2 pa).length (strCells ([x0] ++ o1 dm ++ o2 pa))) ∧ Hid (Below w2.heap.size w2 wx))
    case first =>
      cases hpa : pa.toList.isEmpty with
      | true =>
        have HE : Hid (o2 pa = []) := by show _ = _; rw [E2.out, if_pos hpa]
        go_wp2_with fail
        go_meet
        case rel => exact ⟨_, rfl, by rw [HE.out, List.append_nil]; exact R1.out, Q1⟩
      | false =>
        have HE : Hid (o2 pa = [(⟨#[80, 97, 116, 104, 61]⟩ : ByteArray) ++ pa]) := by show _ = _; rw [E2.out, if_neg (by rw [hpa]; decide)]
        go_wp2_with (at_builtin; go_must (refine wpList_append_own _ rfl _ _ 52 rfl w2.heap.size 9 i0 (.string ⟨#[]⟩) 1 16 Tryd.underlying52 hi hy0 hy1 hy2 rfl (by decide) _ _ _ rfl (R1.out.alloc _) ⟨wc.heap.size, 0, none⟩ 1 1 [.string ((⟨#[80, 97, 116, 104, 61]⟩ : ByteArray) ++ pa)] rfl rfl (cell_one_new _ _ _) (by intro u hu; simp at hu; subst hu; rfl) (by unfold maxLen; simp only [List.length_append, List.length_singleton]; omega) (by simp only [List.length_append, List.length_singleton]; omega) (by simp; omega) ?_))
        intro v4 w4 ho hg _
        rw [strCells_snoc] at ho
        have O4 : Hid (w4.ownsRow w2.heap.size 9 1 v4 ([x0] ++ o1 dm ++ [(⟨#[80, 97, 116, 104, 61]⟩ : ByteArray) ++ pa]).length (strCells ([x0] ++ o1 dm ++ [(⟨#[80, 97, 116, 104, 61]⟩ : ByteArray) ++ pa]))) := own_cast ho (by simp only [List.length_append, List.length_cons, List.length_nil]; omega) (by simp)
        have A4 : Hid (Below w2.heap.size w2 w4) := (Q1.out.alloc Q1.out.size _).grown hg (by have := Q1.out.size; simp; omega) (fun j hj => (R1.out.lt j hj).1)
        clear ho hg
        go_wp2_with fail
        go_meet
        case rel => exact ⟨_, rfl, by rw [HE.out]; exact O4.out, A4⟩
    case rest =>
      clear c2 c3 c4 c5 c6 c7
      obtain ⟨v11, rfl, R2, Q2⟩ := hcut
      obtain ⟨c2, c3, c4, c5, c6, c7⟩ := HC.out _ Q2.out
      have t2 := Q2.out.size
      go_upto_if 34 with fail
      go_cut [3] (fun s wx => ∃ v, s = v ∧ Hid (wx.ownsRow w2.heap.size 9 1 v ([x0] ++ o1 dm ++ o2 pa ++ o3 ag).length (strCells ([x0] ++ o1 dm ++ o2 pa ++ o3 ag))) ∧ Hid (Below w2.heap.size w2 wx))
      case first =>
        by_cases hag : ag = -1
        · have HE : Hid (o3 ag = []) := by show _ = _; rw [E3.out, if_neg (by omega)]
          have q : (ag == -1) = true := by rw [beq_iff_eq]; exact hag
          go_wp2_with fail
          go_meet
          case rel => exact ⟨_, rfl, by rw [HE.out, List.append_nil]; exact R2.out, Q2⟩
        · have HE : Hid (o3 ag = [(⟨#[77, 97, 120, 45, 65, 103, 101, 61]⟩ : ByteArray) ++ dd]) := by show _ = _; rw [E3.out, if_pos (by omega)]
          have q : (ag == -1) = false := by rw [beq_eq_false_iff_ne]; exact hag
          go_wp2_with fail
          refine (K3.out (by omega) _ (B2.out.trans (Q2.out.mono B2.out.size))).mono ?_
          rintro e w3 ⟨rfl, hb3⟩
          have O3 : Hid (w3.ownsRow w2.heap.size 9 1 u3 ([x0] ++ o1 dm ++ o2 pa).length (strCells ([x0] ++ o1 dm ++ o2 pa))) := own_below R2.out hb3
          have A3 : Hid (Below w2.heap.size w2 w3) := Q2.out.trans (hb3.mono Q2.out.size)
          clear hb3
          have s3 := A3.out.size
          go_wp2_with (at_builtin; go_must (refine wpList_append_own _ rfl _ _ 52 rfl w2.heap.size 9 i0 (.string ⟨#[]⟩) 1 16 Tryd.underlying52 hi hy0 hy1 hy2 rfl (by decide) _ _ _ rfl (O3.out.alloc _) ⟨w3.heap.size, 0, none⟩ 1 1 [.string ((⟨#[77, 97, 120, 45, 65, 103, 101, 61]⟩ : ByteArray) ++ dd)] rfl rfl (cell_one_new _ _ _) (by intro u hu; simp at hu; subst hu; rfl) (by unfold maxLen; simp only [List.length_append, List.length_singleton]; omega) (by simp only [List.length_append, List.length_singleton]; omega) (by simp; omega) ?_))
          intro v4 w4 ho hg _
          rw [strCells_snoc] at ho
          have O4 : Hid (w4.ownsRow w2.heap.size 9 1 v4 ([x0] ++ o1 dm ++ o2 pa ++ [(⟨#[77, 97, 120, 45, 65, 103, 101, 61]⟩ : ByteArray) ++ dd]).length (strCells ([x0] ++ o1 dm ++ o2 pa ++ [(⟨#[77, 97, 120, 45, 65, 103, 101, 61]⟩ : ByteArray) ++ dd]))) := own_cast ho (by simp only [List.length_append, List.length_cons, List.length_nil]; omega) (by simp)
          have A4 : Hid (Below w2.heap.size w2 w4) := (A3.out.alloc A3.out.size _).grown hg (by have := A3.out.size; simp; omega) (fun j hj => (O3.out.lt j hj).1)
          clear ho hg
          go_wp2_with fail
          go_meet
          case rel => exact ⟨_, rfl, by rw [HE.out]; exact O4.out, A4⟩
      case rest =>
        clear c2 c3 c4 c5 c6 c7
        obtain ⟨v12, rfl, R3, Q3⟩ := hcut
        obtain ⟨c2, c3, c4, c5, c6, c7⟩ := HC.out _ Q3.out
        have t3 := Q3.out.size
        go_upto_if 43 with fail
        go_cut [3] (fun s wx => ∃ v, s = v ∧ Hid (wx.ownsRow w2.heap.size 9 1 v ([x0] ++ o1 dm ++ o2 pa ++ o3 ag ++ o4 se).length (strCells ([x0] ++ o1 dm ++ o2 pa ++ o3 ag ++ o4 se))) ∧ Hid (Below w2.heap.size w2 wx))
        case first =>
          cases se with
          | false =>
            have HE : Hid (o4 false = []) := rfl
            go_wp2_with fail
            go_meet
            case rel => exact ⟨_, rfl, by rw [HE.out, List.append_nil]; exact R3.out, Q3⟩
          | true =>
            have HE : Hid (o4 true = [(⟨#[83, 101, 99, 117, 114, 101]⟩ : ByteArray)]) := rfl
            go_wp2_with (at_builtin; go_must (refine wpList_append_own _ rfl _ _ 52 rfl w2.heap.size 9 i0 (.string ⟨#[]⟩) 1 16 Tryd.underlying52 hi hy0 hy1 hy2 rfl (by decide) _ _ _ rfl (R3.out.alloc _) ⟨wc.heap.size, 0, none⟩ 1 1 [.string ((⟨#[83, 101, 99, 117, 114, 101]⟩ : ByteArray))] rfl rfl (cell_one_new _ _ _) (by intro u hu; simp at hu; subst hu; rfl) (by unfold maxLen; simp only [List.length_append, List.length_singleton]; omega) (by simp only [List.length_append, List.length_singleton]; omega) (by simp; omega) ?_))
            intro v4 w4 ho hg _
            rw [strCells_snoc] at ho
            have O4 : Hid (w4.ownsRow w2.heap.size 9 1 v4 ([x0] ++ o1 dm ++ o2 pa ++ o3 ag ++ [(⟨#[83, 101, 99, 117, 114, 101]⟩ : ByteArray)]).length (strCells ([x0] ++ o1 dm ++ o2 pa ++ o3 ag ++ [(⟨#[83, 101, 99, 117, 114, 101]⟩ : ByteArray)]))) := own_cast ho (by simp only [List.length_append, List.length_cons, List.length_nil]; omega) (by simp)
            have A4 : Hid (Below w2.heap.size w2 w4) := (Q3.out.alloc Q3.out.size _).grown hg (by have := Q3.out.size; simp; omega) (fun j hj => (R3.out.lt j hj).1)
            clear ho hg
            go_wp2_with fail
            go_meet
            case rel => exact ⟨_, rfl, by rw [HE.out]; exact O4.out, A4⟩
        case rest =>
          clear c2 c3 c4 c5 c6 c7
          obtain ⟨v13, rfl, R4, Q4⟩ := hcut
          obtain ⟨c2, c3, c4, c5, c6, c7⟩ := HC.out _ Q4.out
          have t4 := Q4.out.size
          by_cases hm1 : mo = 1
          · have HE : Hid (o5 mo = [(⟨#[83, 97, 109, 101, 83, 105, 116, 101, 61, 83, 116, 114, 105, 99, 116]⟩ : ByteArray)]) := by show _ = _; rw [E5.out, if_pos hm1]
            have q1 : (mo == 1) = true := by rw [beq_iff_eq]; exact hm1
            go_wp2_with (at_builtin; go_must (refine wpList_append_own _ rfl _ _ 52 rfl w2.heap.size 9 i0 (.string ⟨#[]⟩) 1 16 Tryd.underlying52 hi hy0 hy1 hy2 rfl (by decide) _ _ _ rfl (R4.out.alloc _) ⟨wc.heap.size, 0, none⟩ 1 1 [.string ((⟨#[83, 97, 109, 101, 83, 105, 116, 101, 61, 83, 116, 114, 105, 99, 116]⟩ : ByteArray))] rfl rfl (cell_one_new _ _ _) (by intro u hu; simp at hu; subst hu; rfl) (by unfold maxLen; simp only [List.length_append, List.length_singleton]; omega) (by simp only [List.length_append, List.length_singleton]; omega) (by simp; omega) ?_))
            intro v6 w6 ho hg _
            rw [strCells_snoc] at ho
            have O6 : Hid (w6.ownsRow w2.heap.size 9 1 v6 ([x0] ++ o1 dm ++ o2 pa ++ o3 ag ++ o4 se ++ [(⟨#[83, 97, 109, 101, 83, 105, 116, 101, 61, 83, 116, 114, 105, 99, 116]⟩ : ByteArray)]).length (strCells ([x0] ++ o1 dm ++ o2 pa ++ o3 ag ++ o4 se ++ [(⟨#[83, 97, 109, 101, 83, 105, 116, 101, 61, 83, 116, 114, 105, 99, 116]⟩ : ByteArray)]))) := own_cast ho (by simp only [List.length_append, List.length_cons, List.length_nil]; omega) (by simp)
            have A6 : Hid (Below w2.heap.size w2 w6) := (Q4.out.alloc Q4.out.size _).grown hg (by have := Q4.out.size; simp; omega) (fun j hj => (R4.out.lt j hj).1)
            clear ho hg
            have t6 := A6.out.size
            obtain ⟨d2, d3, d4, d5, d6, d7⟩ := HC.out _ A6.out
            cases pt with
            | false =>
              have HD : Hid (joinB ([x0] ++ o1 dm ++ o2 pa ++ o3 ag ++ o4 se ++ [(⟨#[83, 97, 109, 101, 83, 105, 116, 101, 61, 83, 116, 114, 105, 99, 116]⟩ : ByteArray)]) semi = joinB ([x0] ++ o1 dm ++ o2 pa ++ o3 ag ++ o4 se ++ o5 mo ++ o6 false) semi) := by show _ = _; rw [show o6 false = [] from rfl, HE.out, List.append_nil]
              have HJ : Hid (Calls Tryd.prog 34 #[v6, .string ⟨#[59, 32]⟩] w6 fun e w' => e = .returned (.string R) ∧ Below w6.heap.size w6 w') := by
                have h := join_own ([x0] ++ o1 dm ++ o2 pa ++ o3 ag ++ o4 se ++ [(⟨#[83, 97, 109, 101, 83, 105, 116, 101, 61, 83, 116, 114, 105, 99, 116]⟩ : ByteArray)]) _ _ _ semi _ O6.out (by simp only [List.length_append, List.length_singleton]; omega) (by rw [HD.out]; exact Nat.le_trans HZ.out (by decide))
                rw [HD.out, ← HX.out] at h
                exact h
              go_wp2_with (go_at_call 34; refine HJ.out.mono ?_; rintro e w9 ⟨rfl, hb9⟩)
              go_ret
              exact ⟨rfl, B2.out.trans ((A6.out.mono B2.out.size).trans (hb9.mono (Nat.le_trans B2.out.size A6.out.size)))⟩
            | true =>
              go_wp2_with (at_builtin; go_must (refine wpList_append_own _ rfl _ _ 52 rfl w2.heap.size 9 i0 (.string ⟨#[]⟩) 1 16 Tryd.underlying52 hi hy0 hy1 hy2 rfl (by decide) _ _ _ rfl (O6.out.alloc _) ⟨w6.heap.size, 0, none⟩ 1 1 [.string ((⟨#[80, 97, 114, 116, 105, 116, 105, 111, 110, 101, 100]⟩ : ByteArray))] rfl rfl (cell_one_new _ _ _) (by intro u hu; simp at hu; subst hu; rfl) (by unfold maxLen; simp only [List.length_append, List.length_singleton]; omega) (by simp only [List.length_append, List.length_singleton]; omega) (by simp; omega) ?_))
              intro v8 w8 ho hg _
              rw [strCells_snoc] at ho
              have O8 : Hid (w8.ownsRow w2.heap.size 9 1 v8 ([x0] ++ o1 dm ++ o2 pa ++ o3 ag ++ o4 se ++ [(⟨#[83, 97, 109, 101, 83, 105, 116, 101, 61, 83, 116, 114, 105, 99, 116]⟩ : ByteArray)] ++ [(⟨#[80, 97, 114, 116, 105, 116, 105, 111, 110, 101, 100]⟩ : ByteArray)]).length (strCells ([x0] ++ o1 dm ++ o2 pa ++ o3 ag ++ o4 se ++ [(⟨#[83, 97, 109, 101, 83, 105, 116, 101, 61, 83, 116, 114, 105, 99, 116]⟩ : ByteArray)] ++ [(⟨#[80, 97, 114, 116, 105, 116, 105, 111, 110, 101, 100]⟩ : ByteArray)]))) := own_cast ho (by simp only [List.length_append, List.length_cons, List.length_nil]; omega) (by simp)
              have A8 : Hid (Below w2.heap.size w2 w8) := (A6.out.alloc A6.out.size _).grown hg (by have := A6.out.size; simp; omega) (fun j hj => (O6.out.lt j hj).1)
              clear ho hg
              have HD : Hid (joinB ([x0] ++ o1 dm ++ o2 pa ++ o3 ag ++ o4 se ++ [(⟨#[83, 97, 109, 101, 83, 105, 116, 101, 61, 83, 116, 114, 105, 99, 116]⟩ : ByteArray)] ++ [(⟨#[80, 97, 114, 116, 105, 116, 105, 111, 110, 101, 100]⟩ : ByteArray)]) semi = joinB ([x0] ++ o1 dm ++ o2 pa ++ o3 ag ++ o4 se ++ o5 mo ++ o6 true) semi) := by show _ = _; rw [show o6 true = [(⟨#[80, 97, 114, 116, 105, 116, 105, 111, 110, 101, 100]⟩ : ByteArray)] from rfl, HE.out]
              have HJ : Hid (Calls Tryd.prog 34 #[v8, .string ⟨#[59, 32]⟩] w8 fun e w' => e = .returned (.string R) ∧ Below w8.heap.size w8 w') := by
                have h := join_own ([x0] ++ o1 dm ++ o2 pa ++ o3 ag ++ o4 se ++ [(⟨#[83, 97, 109, 101, 83, 105, 116, 101, 61, 83, 116, 114, 105, 99, 116]⟩ : ByteArray)] ++ [(⟨#[80, 97, 114, 116, 105, 116, 105, 111, 110, 101, 100]⟩ : ByteArray)]) _ _ _ semi _ O8.out (by simp only [List.length_append, List.length_singleton]; omega) (by rw [HD.out]; exact Nat.le_trans HZ.out (by decide))
                rw [HD.out, ← HX.out] at h
                exact h
              go_wp2_with (go_at_call 34; refine HJ.out.mono ?_; rintro e w9 ⟨rfl, hb9⟩)
              go_ret
              exact ⟨rfl, B2.out.trans ((A8.out.mono B2.out.size).trans (hb9.mono (Nat.le_trans B2.out.size A8.out.size)))⟩
          have q1 : (mo == 1) = false := by rw [beq_eq_false_iff_ne]; exact hm1
          by_cases hm2 : mo = 2
          · have HE : Hid (o5 mo = [(⟨#[83, 97, 109, 101, 83, 105, 116, 101, 61, 78, 111, 110, 101]⟩ : ByteArray)]) := by show _ = _; rw [E5.out, if_neg hm1, if_pos hm2]
            have q2 : (mo == 2) = true := by rw [beq_iff_eq]; exact hm2
            go_wp2_with (at_builtin; go_must (refine wpList_append_own _ rfl _ _ 52 rfl w2.heap.size 9 i0 (.string ⟨#[]⟩) 1 16 Tryd.underlying52 hi hy0 hy1 hy2 rfl (by decide) _ _ _ rfl (R4.out.alloc _) ⟨wc.heap.size, 0, none⟩ 1 1 [.string ((⟨#[83, 97, 109, 101, 83, 105, 116, 101, 61, 78, 111, 110, 101]⟩ : ByteArray))] rfl rfl (cell_one_new _ _ _) (by intro u hu; simp at hu; subst hu; rfl) (by unfold maxLen; simp only [List.length_append, List.length_singleton]; omega) (by simp only [List.length_append, List.length_singleton]; omega) (by simp; omega) ?_))
            intro v6 w6 ho hg _
            rw [strCells_snoc] at ho
            have O6 : Hid (w6.ownsRow w2.heap.size 9 1 v6 ([x0] ++ o1 dm ++ o2 pa ++ o3 ag ++ o4 se ++ [(⟨#[83, 97, 109, 101, 83, 105, 116, 101, 61, 78, 111, 110, 101]⟩ : ByteArray)]).length (strCells ([x0] ++ o1 dm ++ o2 pa ++ o3 ag ++ o4 se ++ [(⟨#[83, 97, 109, 101, 83, 105, 116, 101, 61, 78, 111, 110, 101]⟩ : ByteArray)]))) := own_cast ho (by simp only [List.length_append, List.length_cons, List.length_nil]; omega) (by simp)
            have A6 : Hid (Below w2.heap.size w2 w6) := (Q4.out.alloc Q4.out.size _).grown hg (by have := Q4.out.size; simp; omega) (fun j hj => (R4.out.lt j hj).1)
            clear ho hg
            have t6 := A6.out.size
            obtain ⟨d2, d3, d4, d5, d6, d7⟩ := HC.out _ A6.out
            cases pt with
            | false =>
              have HD : Hid (joinB ([x0] ++ o1 dm ++ o2 pa ++ o3 ag ++ o4 se ++ [(⟨#[83, 97, 109, 101, 83, 105, 116, 101, 61, 78, 111, 110, 101]⟩ : ByteArray)]) semi = joinB ([x0] ++ o1 dm ++ o2 pa ++ o3 ag ++ o4 se ++ o5 mo ++ o6 false) semi) := by show _ = _; rw [show o6 false = [] from rfl, HE.out, List.append_nil]
              have HJ : Hid (Calls Tryd.prog 34 #[v6, .string ⟨#[59, 32]⟩] w6 fun e w' => e = .returned (.string R) ∧ Below w6.heap.size w6 w') := by
                have h := join_own ([x0] ++ o1 dm ++ o2 pa ++ o3 ag ++ o4 se ++ [(⟨#[83, 97, 109, 101, 83, 105, 116, 101, 61, 78, 111, 110, 101]⟩ : ByteArray)]) _ _ _ semi _ O6.out (by simp only [List.length_append, List.length_singleton]; omega) (by rw [HD.out]; exact Nat.le_trans HZ.out (by decide))
                rw [HD.out, ← HX.out] at h
                exact h
              go_wp2_with (go_at_call 34; refine HJ.out.mono ?_; rintro e w9 ⟨rfl, hb9⟩)
              go_ret
              exact ⟨rfl, B2.out.trans ((A6.out.mono B2.out.size).trans (hb9.mono (Nat.le_trans B2.out.size A6.out.size)))⟩
            | true =>
              go_wp2_with (at_builtin; go_must (refine wpList_append_own _ rfl _ _ 52 rfl w2.heap.size 9 i0 (.string ⟨#[]⟩) 1 16 Tryd.underlying52 hi hy0 hy1 hy2 rfl (by decide) _ _ _ rfl (O6.out.alloc _) ⟨w6.heap.size, 0, none⟩ 1 1 [.string ((⟨#[80, 97, 114, 116, 105, 116, 105, 111, 110, 101, 100]⟩ : ByteArray))] rfl rfl (cell_one_new _ _ _) (by intro u hu; simp at hu; subst hu; rfl) (by unfold maxLen; simp only [List.length_append, List.length_singleton]; omega) (by simp only [List.length_append, List.length_singleton]; omega) (by simp; omega) ?_))
              intro v8 w8 ho hg _
              rw [strCells_snoc] at ho
              have O8 : Hid (w8.ownsRow w2.heap.size 9 1 v8 ([x0] ++ o1 dm ++ o2 pa ++ o3 ag ++ o4 se ++ [(⟨#[83, 97, 109, 101, 83, 105, 116, 101, 61, 78, 111, 110, 101]⟩ : ByteArray)] ++ [(⟨#[80, 97, 114, 116, 105, 116, 105, 111, 110, 101, 100]⟩ : ByteArray)]).length (strCells ([x0] ++ o1 dm ++ o2 pa ++ o3 ag ++ o4 se ++ [(⟨#[83, 97, 109, 101, 83, 105, 116, 101, 61, 78, 111, 110, 101]⟩ : ByteArray)] ++ [(⟨#[80, 97, 114, 116, 105, 116, 105, 111, 110, 101, 100]⟩ : ByteArray)]))) := own_cast ho (by simp only [List.length_append, List.length_cons, List.length_nil]; omega) (by simp)
              have A8 : Hid (Below w2.heap.size w2 w8) := (A6.out.alloc A6.out.size _).grown hg (by have := A6.out.size; simp; omega) (fun j hj => (O6.out.lt j hj).1)
              clear ho hg
              have HD : Hid (joinB ([x0] ++ o1 dm ++ o2 pa ++ o3 ag ++ o4 se ++ [(⟨#[83, 97, 109, 101, 83, 105, 116, 101, 61, 78, 111, 110, 101]⟩ : ByteArray)] ++ [(⟨#[80, 97, 114, 116, 105, 116, 105, 111, 110, 101, 100]⟩ : ByteArray)]) semi = joinB ([x0] ++ o1 dm ++ o2 pa ++ o3 ag ++ o4 se ++ o5 mo ++ o6 true) semi) := by show _ = _; rw [show o6 true = [(⟨#[80, 97, 114, 116, 105, 116, 105, 111, 110, 101, 100]⟩ : ByteArray)] from rfl, HE.out]
              have HJ : Hid (Calls Tryd.prog 34 #[v8, .string ⟨#[59, 32]⟩] w8 fun e w' => e = .returned (.string R) ∧ Below w8.heap.size w8 w') := by
                have h := join_own ([x0] ++ o1 dm ++ o2 pa ++ o3 ag ++ o4 se ++ [(⟨#[83, 97, 109, 101, 83, 105, 116, 101, 61, 78, 111, 110, 101]⟩ : ByteArray)] ++ [(⟨#[80, 97, 114, 116, 105, 116, 105, 111, 110, 101, 100]⟩ : ByteArray)]) _ _ _ semi _ O8.out (by simp only [List.length_append, List.length_singleton]; omega) (by rw [HD.out]; exact Nat.le_trans HZ.out (by decide))
                rw [HD.out, ← HX.out] at h
                exact h
              go_wp2_with (go_at_call 34; refine HJ.out.mono ?_; rintro e w9 ⟨rfl, hb9⟩)
              go_ret
              exact ⟨rfl, B2.out.trans ((A8.out.mono B2.out.size).trans (hb9.mono (Nat.le_trans B2.out.size A8.out.size)))⟩
          have q2 : (mo == 2) = false := by rw [beq_eq_false_iff_ne]; exact hm2
          have HE : Hid (o5 mo = []) := by show _ = _; rw [E5.out, if_neg hm1, if_neg hm2]
          cases pt with
          | false =>
            have HD : Hid (joinB ([x0] ++ o1 dm ++ o2 pa ++ o3 ag ++ o4 se) semi = joinB ([x0] ++ o1 dm ++ o2 pa ++ o3 ag ++ o4 se ++ o5 mo ++ o6 false) semi) := by show _ = _; rw [show o6 false = [] from rfl, HE.out, List.append_nil, List.append_nil]
            have HJ : Hid (Calls Tryd.prog 34 #[u3, .string ⟨#[59, 32]⟩] wc fun e w' => e = .returned (.string R) ∧ Below wc.heap.size wc w') := by
              have h := join_own ([x0] ++ o1 dm ++ o2 pa ++ o3 ag ++ o4 se) _ _ _ semi _ R4.out (by simp only [List.length_append, List.length_singleton]; omega) (by rw [HD.out]; exact Nat.le_trans HZ.out (by decide))
              rw [HD.out, ← HX.out] at h
              exact h
            go_wp2_with (go_at_call 34; refine HJ.out.mono ?_; rintro e w9 ⟨rfl, hb9⟩)
            go_ret
            exact ⟨rfl, B2.out.trans ((Q4.out.mono B2.out.size).trans (hb9.mono (Nat.le_trans B2.out.size Q4.out.size)))⟩
          | true =>
            go_wp2_with (at_builtin; go_must (refine wpList_append_own _ rfl _ _ 52 rfl w2.heap.size 9 i0 (.string ⟨#[]⟩) 1 16 Tryd.underlying52 hi hy0 hy1 hy2 rfl (by decide) _ _ _ rfl (R4.out.alloc _) ⟨wc.heap.size, 0, none⟩ 1 1 [.string ((⟨#[80, 97, 114, 116, 105, 116, 105, 111, 110, 101, 100]⟩ : ByteArray))] rfl rfl (cell_one_new _ _ _) (by intro u hu; simp at hu; subst hu; rfl) (by unfold maxLen; simp only [List.length_append, List.length_singleton]; omega) (by simp only [List.length_append, List.length_singleton]; omega) (by simp; omega) ?_))
            intro v8 w8 ho hg _
            rw [strCells_snoc] at ho
            have O8 : Hid (w8.ownsRow w2.heap.size 9 1 v8 ([x0] ++ o1 dm ++ o2 pa ++ o3 ag ++ o4 se ++ [(⟨#[80, 97, 114, 116, 105, 116, 105, 111, 110, 101, 100]⟩ : ByteArray)]).length (strCells ([x0] ++ o1 dm ++ o2 pa ++ o3 ag ++ o4 se ++ [(⟨#[80, 97, 114, 116, 105, 116, 105, 111, 110, 101, 100]⟩ : ByteArray)]))) := own_cast ho (by simp only [List.length_append, List.length_cons, List.length_nil]; omega) (by simp)
            have A8 : Hid (Below w2.heap.size w2 w8) := (Q4.out.alloc Q4.out.size _).grown hg (by have := Q4.out.size; simp; omega) (fun j hj => (R4.out.lt j hj).1)
            clear ho hg
            have HD : Hid (joinB ([x0] ++ o1 dm ++ o2 pa ++ o3 ag ++ o4 se ++ [(⟨#[80, 97, 114, 116, 105, 116, 105, 111, 110, 101, 100]⟩ : ByteArray)]) semi = joinB ([x0] ++ o1 dm ++ o2 pa ++ o3 ag ++ o4 se ++ o5 mo ++ o6 true) semi) := by show _ = _; rw [show o6 true = [(⟨#[80, 97, 114, 116, 105, 116, 105, 111, 110, 101, 100]⟩ : ByteArray)] from rfl, HE.out, List.append_nil]
            have HJ : Hid (Calls Tryd.prog 34 #[v8, .string ⟨#[59, 32]⟩] w8 fun e w' => e = .returned (.string R) ∧ Below w8.heap.size w8 w') := by
              have h := join_own ([x0] ++ o1 dm ++ o2 pa ++ o3 ag ++ o4 se ++ [(⟨#[80, 97, 114, 116, 105, 116, 105, 111, 110, 101, 100]⟩ : ByteArray)]) _ _ _ semi _ O8.out (by simp only [List.length_append, List.length_singleton]; omega) (by rw [HD.out]; exact Nat.le_trans HZ.out (by decide))
              rw [HD.out, ← HX.out] at h
              exact h
            go_wp2_with (go_at_call 34; refine HJ.out.mono ?_; rintro e w9 ⟨rfl, hb9⟩)
            go_ret
            exact ⟨rfl, B2.out.trans ((A8.out.mono B2.out.size).trans (hb9.mono (Nat.le_trans B2.out.size A8.out.size)))⟩
end Go.Proofs.YthcpmbolnmlohaaDoor

/- A struct of 8 one-cell fields, by value, opened. -/
namespace Go.Proofs.YthcpmbolnmlohaaDoor
open Go.ChangeShapes Go.WideShapes Go.ChangeAt Go.RowKit Go.Joins Go.Deep

theorem array8 {α : Type} {cs : Array α} (h : cs.size = 8) : ∃ c0 c1 c2 c3 c4 c5 c6 c7, cs = #[c0, c1, c2, c3, c4, c5, c6, c7] := by
  obtain ⟨l⟩ := cs
  match l, h with
  | [c0, c1, c2, c3, c4, c5, c6, c7], _ => exact ⟨c0, c1, c2, c3, c4, c5, c6, c7, rfl⟩
theorem trod_struct8 {H : Type} {enc : TypeId × Value → H} {P : Program} {w : World} {base : Nat} {spare : Nat → Bool} {held : Bool} {t : TypeId} {f0 f1 f2 f3 f4 f5 f6 f7 : Field} {fuel : Nat} {cs : List Value} {x : DataW H × List MemPlace} (ht : P.underlying t = some (.struct #[f0, f1, f2, f3, f4, f5, f6, f7])) (h : DataW.trod enc P w base spare held fuel t cs = some x) :
    ∃ (y0 y1 y2 y3 y4 y5 y6 y7 : DataW H × List MemPlace) (n : Nat), DataW.trod enc P w base spare held n f0.type ((cs.drop f0.offset).take (P.cellsOf f0.type)) = some y0 ∧ DataW.trod enc P w base spare held n f1.type ((cs.drop f1.offset).take (P.cellsOf f1.type)) = some y1 ∧ DataW.trod enc P w base spare held n f2.type ((cs.drop f2.offset).take (P.cellsOf f2.type)) = some y2 ∧ DataW.trod enc P w base spare held n f3.type ((cs.drop f3.offset).take (P.cellsOf f3.type)) = some y3 ∧ DataW.trod enc P w base spare held n f4.type ((cs.drop f4.offset).take (P.cellsOf f4.type)) = some y4 ∧ DataW.trod enc P w base spare held n f5.type ((cs.drop f5.offset).take (P.cellsOf f5.type)) = some y5 ∧ DataW.trod enc P w base spare held n f6.type ((cs.drop f6.offset).take (P.cellsOf f6.type)) = some y6 ∧ DataW.trod enc P w base spare held n f7.type ((cs.drop f7.offset).take (P.cellsOf f7.type)) = some y7 := by
  obtain ⟨xs, n, _, rfl, hl, hlen, hf⟩ := DataW.trod_struct ht h
  match xs, hlen with
  | [y0, y1, y2, y3, y4, y5, y6, y7], _ => exact ⟨y0, y1, y2, y3, y4, y5, y6, y7, n, by simpa using hf 0 f0 rfl, by simpa using hf 1 f1 rfl, by simpa using hf 2 f2 rfl, by simpa using hf 3 f3 rfl, by simpa using hf 4 f4 rfl, by simpa using hf 5 f5 rfl, by simpa using hf 6 f6 rfl, by simpa using hf 7 f7 rfl⟩
theorem open_agg8 {H : Type} {enc : TypeId × Value → H} {P : Program} {w : World} {base : Nat} {spare : Nat → Bool} {held : Bool} {r : Reach} {b0 : Nat} {t : TypeId} {f0 f1 f2 f3 f4 f5 f6 f7 : Field} {v : Value} {d : DataW H} {p : List MemPlace} (hs : P.underlying t = some (.struct #[f0, f1, f2, f3, f4, f5, f6, f7])) (hone : oneCellFields P #[f0, f1, f2, f3, f4, f5, f6, f7] = true) (hC : P.cellsOf t = 8)
    (hv : Value.okWide P w r b0 t v) (h : DataW.Trod enc P w base spare held t v d p) :
    ∃ (c0 c1 c2 c3 c4 c5 c6 c7 : Value) (y0 y1 y2 y3 y4 y5 y6 y7 : DataW H × List MemPlace) (n : Nat), v = .agg #[c0, c1, c2, c3, c4, c5, c6, c7] ∧ DataW.trod enc P w base spare held n f0.type [c0] = some y0 ∧ DataW.trod enc P w base spare held n f1.type [c1] = some y1 ∧ DataW.trod enc P w base spare held n f2.type [c2] = some y2 ∧ DataW.trod enc P w base spare held n f3.type [c3] = some y3 ∧ DataW.trod enc P w base spare held n f4.type [c4] = some y4 ∧ DataW.trod enc P w base spare held n f5.type [c5] = some y5 ∧ DataW.trod enc P w base spare held n f6.type [c6] = some y6 ∧ DataW.trod enc P w base spare held n f7.type [c7] = some y7 := by
  obtain ⟨cs, rfl, hsz⟩ := okWide_struct hs hv
  obtain ⟨c0, c1, c2, c3, c4, c5, c6, c7, rfl⟩ := array8 (hsz.trans hC)
  obtain ⟨fuel, hf⟩ := h
  obtain ⟨y0, y1, y2, y3, y4, y5, y6, y7, n, h0, h1, h2, h3, h4, h5, h6, h7⟩ := trod_struct8 hs hf
  obtain ⟨o0, k0⟩ := hone_of hone 0 f0 rfl
  obtain ⟨o1, k1⟩ := hone_of hone 1 f1 rfl
  obtain ⟨o2, k2⟩ := hone_of hone 2 f2 rfl
  obtain ⟨o3, k3⟩ := hone_of hone 3 f3 rfl
  obtain ⟨o4, k4⟩ := hone_of hone 4 f4 rfl
  obtain ⟨o5, k5⟩ := hone_of hone 5 f5 rfl
  obtain ⟨o6, k6⟩ := hone_of hone 6 f6 rfl
  obtain ⟨o7, k7⟩ := hone_of hone 7 f7 rfl
  exact ⟨c0, c1, c2, c3, c4, c5, c6, c7, y0, y1, y2, y3, y4, y5, y6, y7, n, rfl, by simpa [Value.cells, o0, k0] using h0, by simpa [Value.cells, o1, k1] using h1, by simpa [Value.cells, o2, k2] using h2, by simpa [Value.cells, o3, k3] using h3, by simpa [Value.cells, o4, k4] using h4, by simpa [Value.cells, o5, k5] using h5, by simpa [Value.cells, o6, k6] using h6, by simpa [Value.cells, o7, k7] using h7⟩
end Go.Proofs.YthcpmbolnmlohaaDoor

/- The laws FnExactSetRight and FnExactSetText, walked. -/
namespace Go.Proofs.YthcpmbolnmlohaaDoor
open Go.RowKit
theorem wf_i64 {n : Int} (h : (Lit.int .i64 n).wf = true) : -9223372036854775808 ≤ n ∧ n ≤ 9223372036854775807 := by
  simp [Lit.wf] at h
  have e1 : IntKind.i64.min = -9223372036854775808 := by decide
  have e2 : IntKind.i64.max = 9223372036854775807 := by decide
  omega
theorem lawSetRight_any (na va dm pa : ByteArray) (ag : Int) (se : Bool) (mo : Int) (pt : Bool) (w : World) (hG : MaxI w) (m0 : na.size ≤ maxLen) (m1 : va.size ≤ maxLen) (m2 : dm.size ≤ maxLen) (m3 : pa.size ≤ maxLen) (ha : (Lit.int .i64 ag).wf = true) :
    Calls Tryd.prog 4 #[.agg #[.string na, .string va, .string dm, .string pa, .int .i64 ag, .bool se, .int .i64 mo, .bool pt]] w fun e w' => e = .returned (.bool true) ∧ Below w.heap.size w w' :=
  lawSetRight_of w (fun na va dm pa ag se mo pt W hb _ _ hz => setRight_any na va dm pa ag se mo pt W (hG.on hb) (by omega)) na va dm pa ag se mo pt (wf_i64 ha).1 (wf_i64 ha).2 m0 m1 m2 m3
theorem lawSetText_any (na va dm pa : ByteArray) (ag : Int) (se : Bool) (mo : Int) (pt : Bool) (w : World) (hG : MaxI w) (hT : PowI w) (m0 : na.size ≤ maxLen) (m1 : va.size ≤ maxLen) (m2 : dm.size ≤ maxLen) (m3 : pa.size ≤ maxLen) (ha : (Lit.int .i64 ag).wf = true) :
    Calls Tryd.prog 5 #[.agg #[.string na, .string va, .string dm, .string pa, .int .i64 ag, .bool se, .int .i64 mo, .bool pt]] w fun e w' => e = .returned (.bool true) ∧ Below w.heap.size w w' :=
  lawSetText_of w (fun na va dm pa ag se mo pt W hb _ _ hz => setText_any na va dm pa ag se mo pt W (hG.on hb) (hT.on hb) (by omega)) na va dm pa ag se mo pt (wf_i64 ha).1 (wf_i64 ha).2 m0 m1 m2 m3
end Go.Proofs.YthcpmbolnmlohaaDoor

/- The lifting of a law's walk to a row that lists package-level variables, the world's shape kept; what the shape and the list give a walk. -/
namespace Go.Proofs.YthcpmbolnmlohaaDoor
open Go.RowKit

theorem Ld.own : ownKnob Tryd.prog.godebug = none := by kernel_rfl
theorem Ld.laidOut : laidOutB Tryd.prog = true := by kernel_rfl
set_option maxRecDepth 10000 in
theorem lift_laid {H : Type} {enc : TypeId × Value → H} {os : Os} {f : FuncId} {fn : Func} {s : ChangeSpec} {X : World → Prop} (hX : ∀ (w w' : World), w.heap = w'.heap → X w → X w')
    (started : os.Started) (noInit : Tryd.prog.inits.idxOf? f = none) (hfn : Tryd.prog.funcs[f]? = some fn)
    (start : ∃ (w : World) (tape : Tape) (i : Input), w.os = os ∧ (w.forCall tape i).Shaped Tryd.prog ∧ i.vars = [] ∧ Input.okWide Tryd.prog (w.forCall tape i) .any w.heap.size f i ∧
      ((s.pre enc Tryd.prog fn [] false (w.forCall tape i).memory i.args ∧ X (w.forCall tape i).memory) ∧ sizedMet enc Tryd.prog fn (OpenSpec.ofChange s) false (w.forCall tape i).memory i.args) ∧ Assume.holds {} Tryd.prog (lone (Frame.enter Tryd.prog f i.args .normal) [] (w.forCall tape i)))
    (walk : ∀ (W : World) (base : Nat) (args : Array Value) (ds gs : List (DataW H)) (before : List MemPlace),
      (∀ (j : Nat) t v, fn.params[j]? = some t → args[j]? = some v → Value.okWide Tryd.prog W .any base t v) →
      DataW.Whole enc Tryd.prog fn.params.toList s.vars false W args.toList ds gs before → X W → W.ShapedOpen Tryd.prog →
      Calls Tryd.prog f args W fun e W' => ∃ v, e = .returned v ∧ s.post enc Tryd.prog fn false true false false W args v W') :
    ReturnsInHanded {} Tryd.checked os f .any (fun w args => (s.pre enc Tryd.prog fn [] false w args ∧ X w) ∧ sizedMet enc Tryd.prog fn (OpenSpec.ofChange s) false w args) (s.post enc Tryd.prog fn false true false false) := by
  refine returnsInHanded_of_calls (C := Tryd.checked) Ld.own started noInit start ?_
  intro w tape i _ hsh _ hok hpre _
  obtain ⟨_, _, _, fn2, hfn2, _, _, _, _, hval⟩ := hok
  obtain rfl : fn2 = fn := Option.some.inj (hfn2.symm.trans hfn)
  obtain ⟨⟨⟨ds, gs, before, hw, _⟩, hx⟩, _⟩ := hpre
  have hw2 := DataW.Whole.of_heap (w' := w.forCall tape i) (by rfl) hw
  refine (walk (w.forCall tape i) w.heap.size i.args ds gs before hval hw2 (hX _ _ (by rfl) hx) hsh).mono fun e W' ⟨v, he, hp⟩ => ?_
  subst he
  exact ChangeSpec.post_blind hp
set_option maxRecDepth 10000 in
theorem maxI_of_shape {W : World} (h : W.ShapedOpen Tryd.prog) : MaxI W := Tryd.lays146.s1_3 W h
set_option maxRecDepth 10000 in
theorem Ld.pow : (Rows.laid_internal_strconv_uint64pow10 : DataW Unit) = Lib.tabData .u64 Lib.pow10Tab := by kernel_rfl
set_option maxRecDepth 10000 in
theorem pow_of_laid {W : World} {l : List (String × DataW Unit)} {a b : String × DataW Unit} {r : List (String × DataW Unit)} (hh : (l.all fun x => x.2.handleName?.isNone) = true)
    (hl : l = a :: b :: ("internal/strconv.uint64pow10", Rows.laid_internal_strconv_uint64pow10) :: r) (h : laidMetH Tryd.prog l W) : Lib.TabIs Tryd.prog W "internal/strconv.uint64pow10" .u64 Lib.pow10Tab := by
  rw [MakeChecks.laidMetH_plain _ _ _ hh, hl, Ld.pow] at h
  exact Lib.tabIs_of_head (g := 1) (t := 122) (e := 74) (n := 20) (by kernel_rfl) (by kernel_rfl) Tryd.underlying122 Tryd.underlying74 (by kernel_rfl) (by kernel_rfl) h.tail.tail
end Go.Proofs.YthcpmbolnmlohaaDoor

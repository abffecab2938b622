/- 4 of this claim's texts, one behind the other. -/
import Derived.Test.YthcpmbolnmlohaaDoorPart4
import Derived.Deep.DeepCutAuto
import Derived.Test.YthcpmbolnmlohaaDoorPart3
import Derived.Test.YthcpmbolnmlohaaDoorPart2
import Derived.Handed
import Derived.Lay
import Derived.MakeChecks
import Derived.Lib.LaidTab
import Derived.Stop.LaidErr
/- The walks of the program's setParts and SetRead. Written by implsetread.py. -/
namespace Go.Proofs.YthcpmbolnmlohaaDoor
open Go.RowKit

theorem split_semi (s : ByteArray) (w : World) (hG : MaxI w) (hs : s.size < 4294967281) :
    Calls Tryd.prog 36 #[.string s, .string ⟨#[59, 32]⟩] w fun e w' => e = .returned (.slice (some ⟨w.heap.size, 0, none⟩) (piecesL s).length (piecesL s).length) ∧ w' = w.alloc (.cells (strCells (piecesL s)).toArray 9) := by
  obtain ⟨m, hm⟩ := hG
  have h := Any.strings_Split { Tryd.lays146 with } Tryd.lays146.i9 s semi m w hs hm (by decide)
  rw [pieces_lib, pieces_count] at h
  exact h
theorem pieces_pos (t : ByteArray) : 0 < (piecesL t).length := by
  by_cases h : 0 ≤ findI t semi
  · rw [piecesL_more (find_in h).2]; simp
  · rw [piecesL_last h]; simp
theorem pieces_at_small (t : ByteArray) (i : Nat) (hi : i < (piecesL t).length) : (atL (piecesL t) i).size ≤ t.size := by
  have e : atL (piecesL t) i = (piecesL t)[i] := by simp [atL, hi]
  rw [e]; exact piecesL_small t _ (List.getElem_mem hi)
theorem iVal_mo (c : SC) (x : ByteArray) : (iVal c x).mo = c.mo := by
  unfold iVal; split
  · rfl
  · split
    · rfl
    · split <;> rfl
theorem iTo_mo (L : List ByteArray) : ∀ k : Nat, 0 ≤ (iTo L k).mo ∧ (iTo L k).mo ≤ 2 * (k : Int)
  | 0 => ⟨Int.le_refl _, Int.le_refl _⟩
  | k + 1 => by
    have ih := iTo_mo L k
    rw [iTo]
    unfold iPut
    split
    · show 0 ≤ (iTo L k).mo + 1 + 1 ∧ (iTo L k).mo + 1 + 1 ≤ _; omega
    · split
      · show 0 ≤ (iTo L k).mo + 1 ∧ (iTo L k).mo + 1 ≤ _; omega
      · split
        · show 0 ≤ (iTo L k).mo ∧ (iTo L k).mo ≤ _; omega
        · split
          · show 0 ≤ (iTo L k).mo ∧ (iTo L k).mo ≤ _; omega
          · rw [iVal_mo]; omega
set_option maxRecDepth 10000 in
set_option maxHeartbeats 16000000 in
theorem setParts_any (t : ByteArray) (w : World) (hG : MaxI w) (hE : ErrI w) (ht : t.size ≤ 8000) :
    Calls Tryd.prog 54 #[.string t] w fun e w' => e = .returned (scV (iRead t)) ∧ Below w.heap.size w w' := by
  have KP : Hid (∀ W, Below w.heap.size w W → Calls Tryd.prog 36 #[.string t, .string ⟨#[59, 32]⟩] W fun e w' => e = .returned (.slice (some ⟨W.heap.size, 0, none⟩) (piecesL t).length (piecesL t).length) ∧ w' = W.alloc (.cells (strCells (piecesL t)).toArray 9)) := fun W hb => split_semi t W (hG.on hb) (by omega)
  have hlen := piecesL_len t
  have hpos := pieces_pos t
  have HSM : Hid (∀ i, i < (piecesL t).length → (atL (piecesL t) i).size ≤ 8000) := fun i hi => Nat.le_trans (pieces_at_small t i hi) ht
  have HE : Hid (iRead t = iTo (piecesL t) ((piecesL t).length - 1)) := rfl
  have HMO : Hid (∀ k : Nat, 0 ≤ (iTo (piecesL t) k).mo ∧ (iTo (piecesL t) k).mo ≤ 2 * (k : Int)) := iTo_mo _
  have HCE : Hid (∀ (W : World) j, j < (piecesL t).length → (W.alloc (.cells (strCells (piecesL t)).toArray 9)).cell? ⟨W.heap.size, j, none⟩ = some (.string (atL (piecesL t) j))) := fun W j hj => by
    have e : atL (piecesL t) j = (piecesL t)[j] := by simp [atL, hj]
    rw [e]; simp [strCells, hj]
  have HG : Hid (MaxI w) := hG
  have HEr : Hid (ErrI w) := hE
  clear hG hE
  generalize iRead t = RR at *
  generalize piecesL t = L at *
  have hL : L.length ≤ 8001 := by omega
  clear hlen
  have KQ : Hid (∀ (W : World), Below w.heap.size w W → Calls Tryd.prog 59 #[.string (atL L 0)] W fun e w' => e = .returned (.agg #[.string (pairP (atL L 0)).1, .string (pairP (atL L 0)).2]) ∧ Below W.heap.size W w') := fun W hb => pairParts_any _ W (HG.out.on hb) (HSM.out 0 hpos)
  have HT0 : Hid (iTo L 0 = ⟨(pairP (atL L 0)).1, (pairP (atL L 0)).2, ⟨#[]⟩, ⟨#[]⟩, -1, false, 0, false⟩) := rfl
  have KA : Hid (∀ (k : Nat) (W : World), k + 1 < L.length → Below w.heap.size w W → Calls Tryd.prog 81 #[scV (iTo L k), .string (atL L (k + 1))] W fun e w' => e = .returned (scV (iTo L (k + 1))) ∧ Below W.heap.size W w') := fun k W hk hb => withAttribute_any (iTo L k) (atL L (k + 1)) W (HG.out.on hb) (HEr.out.on hb) (HSM.out _ hk) (HMO.out k).1 (by have := (HMO.out k).2; omega)
  clear HSM HMO HG HEr
  generalize (pairP (atL L 0)).1 = n0 at *
  generalize (pairP (atL L 0)).2 = v0 at *
  generalize hF : iTo L = F at *
  have W0 : Hid (∀ o, Below w.heap.size w (w.alloc o)) := fun o => (Below.refl _ _).alloc (Nat.le_refl _) _
  clear hF
  go_enter Tryd.func54, Tryd.ntmps54
  go_wp2_with fail
  refine (KP.out _ (W0.out _)).mono ?_
  rintro e w1 ⟨rfl, rfl⟩
  have HC1 : Hid (∀ j, j < L.length → ((w.alloc (.cells #[.string ⟨#[]⟩, .string ⟨#[]⟩, .string ⟨#[]⟩, .string ⟨#[]⟩, .int .i64 0, .bool false, .int .i64 0, .bool false] 32)).alloc (.cells (strCells L).toArray 9)).cell? ⟨w.heap.size + 1, j, none⟩ = some (.string (atL L j))) := fun j hj => by
    have h := HCE.out (w.alloc (.cells #[.string ⟨#[]⟩, .string ⟨#[]⟩, .string ⟨#[]⟩, .string ⟨#[]⟩, .int .i64 0, .bool false, .int .i64 0, .bool false] 32)) j hj
    have e : (w.alloc (.cells #[.string ⟨#[]⟩, .string ⟨#[]⟩, .string ⟨#[]⟩, .string ⟨#[]⟩, .int .i64 0, .bool false, .int .i64 0, .bool false] 32)).heap.size = w.heap.size + 1 := by simp
    rw [e] at h; exact h
  have B1 : Hid (Below w.heap.size w ((w.alloc (.cells #[.string ⟨#[]⟩, .string ⟨#[]⟩, .string ⟨#[]⟩, .string ⟨#[]⟩, .int .i64 0, .bool false, .int .i64 0, .bool false] 32)).alloc (.cells (strCells L).toArray 9))) := (W0.out _).alloc (by simp) _
  have RZ1 : Hid (U8 ((w.alloc (.cells #[.string ⟨#[]⟩, .string ⟨#[]⟩, .string ⟨#[]⟩, .string ⟨#[]⟩, .int .i64 0, .bool false, .int .i64 0, .bool false] 32)).alloc (.cells (strCells L).toArray 9)) w.heap.size (.string ⟨#[]⟩) (.string ⟨#[]⟩) (.string ⟨#[]⟩) (.string ⟨#[]⟩) (.int .i64 0) (.bool false) (.int .i64 0) (.bool false)) := (U8.made w (.string ⟨#[]⟩) (.string ⟨#[]⟩) (.string ⟨#[]⟩) (.string ⟨#[]⟩) (.int .i64 0) (.bool false) (.int .i64 0) (.bool false) 32).below ((Below.refl _ _).alloc (Nat.le_refl _) _)
  have z1 : w.heap.size + 2 ≤ ((w.alloc (.cells #[.string ⟨#[]⟩, .string ⟨#[]⟩, .string ⟨#[]⟩, .string ⟨#[]⟩, .int .i64 0, .bool false, .int .i64 0, .bool false] 32)).alloc (.cells (strCells L).toArray 9)).heap.size := by simp
  have hc0 := HC1.out 0 hpos
  have lp : (0 : Int) < (L.length : Int) := by omega
  clear HCE KP W0
  go_upto_region 2 with fail
  generalize (w.alloc (.cells #[.string ⟨#[]⟩, .string ⟨#[]⟩, .string ⟨#[]⟩, .string ⟨#[]⟩, .int .i64 0, .bool false, .int .i64 0, .bool false] 32)).alloc (.cells (strCells L).toArray 9) = w1 at *
  go_wp2_with fail
  refine (KQ.out _ B1.out).mono ?_
  rintro e w2 ⟨rfl, hb2⟩
  have RZ2 : Hid (U8 w2 w.heap.size (.string ⟨#[]⟩) (.string ⟨#[]⟩) (.string ⟨#[]⟩) (.string ⟨#[]⟩) (.int .i64 0) (.bool false) (.int .i64 0) (.bool false)) := RZ1.out.below hb2
  have B2 : Hid (Below w.heap.size w w2) := B1.out.trans (hb2.mono B1.out.size)
  have HC2 : Hid (∀ j, j < L.length → w2.cell? ⟨w.heap.size + 1, j, none⟩ = some (.string (atL L j))) := fun j hj => by rw [(bcell hb2).1 _ _ z1]; exact HC1.out j hj
  have z2 : w.heap.size + 2 ≤ w2.heap.size := Nat.le_trans z1 hb2.size
  clear hb2 HC1 RZ1 B1 hc0 z1 KQ
  have UC0 : Hid (UC ((w2.alloc (.cells #[.string n0, .string v0] 64)).alloc (.cells #[.string n0, .string v0, .string ⟨#[]⟩, .string ⟨#[]⟩, .int .i64 (-1), .bool false, .int .i64 0, .bool false] 32)) (w2.heap.size + 1) (F 0)) := by
    show UC _ _ _
    rw [HT0.out]
    have h := U8.made (w2.alloc (.cells #[.string n0, .string v0] 64)) (.string n0) (.string v0) (.string ⟨#[]⟩) (.string ⟨#[]⟩) (.int .i64 (-1)) (.bool false) (.int .i64 0) (.bool false) 32
    have e : (w2.alloc (.cells #[.string n0, .string v0] 64)).heap.size = w2.heap.size + 1 := by simp
    rw [e] at h
    exact h
  have BB : Hid (Below w2.heap.size w2 ((w2.alloc (.cells #[.string n0, .string v0] 64)).alloc (.cells #[.string n0, .string v0, .string ⟨#[]⟩, .string ⟨#[]⟩, .int .i64 (-1), .bool false, .int .i64 0, .bool false] 32))) := ((Below.refl _ _).alloc (Nat.le_refl _) _).alloc (by simp) _
  have RZ3 : Hid (U8 ((w2.alloc (.cells #[.string n0, .string v0] 64)).alloc (.cells #[.string n0, .string v0, .string ⟨#[]⟩, .string ⟨#[]⟩, .int .i64 (-1), .bool false, .int .i64 0, .bool false] 32)) w.heap.size (.string ⟨#[]⟩) (.string ⟨#[]⟩) (.string ⟨#[]⟩) (.string ⟨#[]⟩) (.int .i64 0) (.bool false) (.int .i64 0) (.bool false)) := RZ2.out.below BB.out
  have HC3 : Hid (∀ j, j < L.length → ((w2.alloc (.cells #[.string n0, .string v0] 64)).alloc (.cells #[.string n0, .string v0, .string ⟨#[]⟩, .string ⟨#[]⟩, .int .i64 (-1), .bool false, .int .i64 0, .bool false] 32)).cell? ⟨w.heap.size + 1, j, none⟩ = some (.string (atL L j))) := fun j hj => by rw [(bcell BB.out).1 _ _ z2]; exact HC2.out j hj
  have B3 : Hid (Below w.heap.size w ((w2.alloc (.cells #[.string n0, .string v0] 64)).alloc (.cells #[.string n0, .string v0, .string ⟨#[]⟩, .string ⟨#[]⟩, .int .i64 (-1), .bool false, .int .i64 0, .bool false] 32))) := B2.out.trans (BB.out.mono B2.out.size)
  have z3 : w2.heap.size + 2 ≤ ((w2.alloc (.cells #[.string n0, .string v0] 64)).alloc (.cells #[.string n0, .string v0, .string ⟨#[]⟩, .string ⟨#[]⟩, .int .i64 (-1), .bool false, .int .i64 0, .bool false] 32)).heap.size := by simp
  have lp1 : (1 : Int) ≤ (L.length : Int) := by omega
  clear RZ2 HC2 B2 BB HT0
  by_cases h1 : L.length = 1
  · have HX : Hid (RR = F 0) := by show _ = _; rw [HE.out, h1]
    have hl0 : (L.length : Int) - 1 = 0 := by omega
    go_upto_region 5 with fail
    generalize ((w2.alloc (.cells #[.string n0, .string v0] 64)).alloc (.cells #[.string n0, .string v0, .string ⟨#[]⟩, .string ⟨#[]⟩, .int .i64 (-1), .bool false, .int .i64 0, .bool false] 32)) = ws at *
    obtain ⟨-, ⟨d0, d1, d2, d3, d4, d5, d6, d7⟩, df⟩ := UC0.out
    obtain ⟨-, ⟨r0, r1, r2, r3, r4, r5, r6, r7⟩, fr⟩ := RZ3.out
    have hne : ¬ w2.heap.size + 1 = w.heap.size := by omega
    go_loop [22] (fun i => i = .int .i64 0) (fun _ => 0)
    case atStart => rfl
    case round =>
      subst hrel
      generalize F 0 = c at *
      go_wp2
      exact bodyPost_ret (v := scV c) (by simp [scV, setV, results, Tryd.results54, go_sem, r0, r1, r2, r3, r4, r5, r6, r7]) rfl ⟨by rw [HX.out], (Below.setCell (Below.setCell (Below.setCell (Below.setCell (Below.setCell (Below.setCell (Below.setCell (Below.setCell B3.out (p := ⟨w.heap.size, 0, none⟩) (Nat.le_refl _) _) (p := ⟨w.heap.size, 1, none⟩) (Nat.le_refl _) _) (p := ⟨w.heap.size, 2, none⟩) (Nat.le_refl _) _) (p := ⟨w.heap.size, 3, none⟩) (Nat.le_refl _) _) (p := ⟨w.heap.size, 4, none⟩) (Nat.le_refl _) _) (p := ⟨w.heap.size, 5, none⟩) (Nat.le_refl _) _) (p := ⟨w.heap.size, 6, none⟩) (Nat.le_refl _) _) (p := ⟨w.heap.size, 7, none⟩) (Nat.le_refl _) _)⟩
  · have hcap : ¬ L.length = 1 := h1
    go_upto_region 5 with fail
    generalize ((w2.alloc (.cells #[.string n0, .string v0] 64)).alloc (.cells #[.string n0, .string v0, .string ⟨#[]⟩, .string ⟨#[]⟩, .int .i64 (-1), .bool false, .int .i64 0, .bool false] 32)) = ws at *
    go_loopw [22] (fun i wr => ∃ k : Nat, k + 1 ≤ L.length ∧ i = .int .i64 (k : Int) ∧ w2.heap.size + 2 ≤ wr.heap.size ∧ Hid (UC wr (w2.heap.size + 1) (F k)) ∧ Hid (∀ j, j < L.length → wr.cell? ⟨w.heap.size + 1, j, none⟩ = some (.string (atL L j))) ∧ Hid (U8 wr w.heap.size (.string ⟨#[]⟩) (.string ⟨#[]⟩) (.string ⟨#[]⟩) (.string ⟨#[]⟩) (.int .i64 0) (.bool false) (.int .i64 0) (.bool false)) ∧ Hid (Below w.heap.size w wr)) (fun i _ => L.length - (intOf i).toNat)
    case atStart => exact ⟨0, by omega, rfl, z3, UC0, HC3, RZ3, B3⟩
    case round =>
      obtain ⟨k, hk, rfl, hz, HU, HCr, HZ, HB⟩ := hrel
      obtain ⟨-, ⟨d0, d1, d2, d3, d4, d5, d6, d7⟩, df⟩ := HU.out
      have hne : ¬ w2.heap.size + 1 = w.heap.size := by omega
      by_cases hlt : k + 1 < L.length
      · have hck := HCr.out (k + 1) hlt
        have k0 : (0 : Int) ≤ (k : Int) := by omega
        have k1 : (k : Int) < (L.length : Int) - 1 := by omega
        have hkk : 1 + k = k + 1 := by omega
        have KB : Hid (Calls Tryd.prog 81 #[.agg #[.string (F k).na, .string (F k).va, .string (F k).dm, .string (F k).pa, .int .i64 (F k).ag, .bool (F k).se, .int .i64 (F k).mo, .bool (F k).pt], .string (atL L (k + 1))] wr fun e w' => e = .returned (.agg #[.string (F (k + 1)).na, .string (F (k + 1)).va, .string (F (k + 1)).dm, .string (F (k + 1)).pa, .int .i64 (F (k + 1)).ag, .bool (F (k + 1)).se, .int .i64 (F (k + 1)).mo, .bool (F (k + 1)).pt]) ∧ Below wr.heap.size wr w') := KA.out k wr hlt HB.out
        go_wp2_with fail
        refine KB.out.mono ?_
        rintro e w3 ⟨rfl, hb3⟩
        have U3 : Hid (UC w3 (w2.heap.size + 1) (F k)) := HU.out.below hb3
        have Z3 : Hid (U8 w3 w.heap.size (.string ⟨#[]⟩) (.string ⟨#[]⟩) (.string ⟨#[]⟩) (.string ⟨#[]⟩) (.int .i64 0) (.bool false) (.int .i64 0) (.bool false)) := HZ.out.below hb3
        have C3 : Hid (∀ j, j < L.length → w3.cell? ⟨w.heap.size + 1, j, none⟩ = some (.string (atL L j))) := fun j hj => by rw [(bcell hb3).1 _ _ (by omega)]; exact HCr.out j hj
        have B4 : Hid (Below w.heap.size w w3) := HB.out.trans (hb3.mono HB.out.size)
        have zb : w2.heap.size + 2 ≤ w3.heap.size := Nat.le_trans hz hb3.size
        clear hb3 hck HU HZ HCr HB d0 d1 d2 d3 d4 d5 d6 d7 df KB
        obtain ⟨-, ⟨d0, d1, d2, d3, d4, d5, d6, d7⟩, df⟩ := U3.out
        go_wp2
        go_roundw
        case rel =>
          refine ⟨k + 1, by omega, by go_num, by simp [World.setCell]; omega, ?_, ?_, ?_, ?_⟩
          · exact (U8.set7 (U8.set6 (U8.set5 (U8.set4 (U8.set3 (U8.set2 (U8.set1 (U8.set0 U3.out _) _) _) _) _) _) _) _)
          · intro j hj
            exact (World.cell?_setCell_far _ _ _ _ (by show ¬ w2.heap.size + 1 = w.heap.size + 1; omega)).trans ((World.cell?_setCell_far _ _ _ _ (by show ¬ w2.heap.size + 1 = w.heap.size + 1; omega)).trans ((World.cell?_setCell_far _ _ _ _ (by show ¬ w2.heap.size + 1 = w.heap.size + 1; omega)).trans ((World.cell?_setCell_far _ _ _ _ (by show ¬ w2.heap.size + 1 = w.heap.size + 1; omega)).trans ((World.cell?_setCell_far _ _ _ _ (by show ¬ w2.heap.size + 1 = w.heap.size + 1; omega)).trans ((World.cell?_setCell_far _ _ _ _ (by show ¬ w2.heap.size + 1 = w.heap.size + 1; omega)).trans ((World.cell?_setCell_far _ _ _ _ (by show ¬ w2.heap.size + 1 = w.heap.size + 1; omega)).trans ((World.cell?_setCell_far _ _ _ _ (by show ¬ w2.heap.size + 1 = w.heap.size + 1; omega)).trans (C3.out j hj))))))))
          · exact (U8.far (U8.far (U8.far (U8.far (U8.far (U8.far (U8.far (U8.far Z3.out (p := ⟨w2.heap.size + 1, 0, none⟩) hne _) (p := ⟨w2.heap.size + 1, 1, none⟩) hne _) (p := ⟨w2.heap.size + 1, 2, none⟩) hne _) (p := ⟨w2.heap.size + 1, 3, none⟩) hne _) (p := ⟨w2.heap.size + 1, 4, none⟩) hne _) (p := ⟨w2.heap.size + 1, 5, none⟩) hne _) (p := ⟨w2.heap.size + 1, 6, none⟩) hne _) (p := ⟨w2.heap.size + 1, 7, none⟩) hne _)
          · exact (Below.setCell (Below.setCell (Below.setCell (Below.setCell (Below.setCell (Below.setCell (Below.setCell (Below.setCell B4.out (p := ⟨w2.heap.size + 1, 0, none⟩) (by show w.heap.size ≤ w2.heap.size + 1; omega) _) (p := ⟨w2.heap.size + 1, 1, none⟩) (by show w.heap.size ≤ w2.heap.size + 1; omega) _) (p := ⟨w2.heap.size + 1, 2, none⟩) (by show w.heap.size ≤ w2.heap.size + 1; omega) _) (p := ⟨w2.heap.size + 1, 3, none⟩) (by show w.heap.size ≤ w2.heap.size + 1; omega) _) (p := ⟨w2.heap.size + 1, 4, none⟩) (by show w.heap.size ≤ w2.heap.size + 1; omega) _) (p := ⟨w2.heap.size + 1, 5, none⟩) (by show w.heap.size ≤ w2.heap.size + 1; omega) _) (p := ⟨w2.heap.size + 1, 6, none⟩) (by show w.heap.size ≤ w2.heap.size + 1; omega) _) (p := ⟨w2.heap.size + 1, 7, none⟩) (by show w.heap.size ≤ w2.heap.size + 1; omega) _)
        case measure => simp [intOf]; omega
      · obtain rfl : k = L.length - 1 := by omega
        have B3' : Hid (Below w.heap.size w wr) := HB.out
        obtain ⟨-, ⟨r0, r1, r2, r3, r4, r5, r6, r7⟩, fr⟩ := HZ.out
        have HX : Hid (RR = F (L.length - 1)) := HE.out
        generalize F (L.length - 1) = c at *
        go_wp2
        exact bodyPost_ret (v := scV c) (by simp [scV, setV, results, Tryd.results54, go_sem, r0, r1, r2, r3, r4, r5, r6, r7]) rfl ⟨by rw [HX.out], (Below.setCell (Below.setCell (Below.setCell (Below.setCell (Below.setCell (Below.setCell (Below.setCell (Below.setCell B3'.out (p := ⟨w.heap.size, 0, none⟩) (Nat.le_refl _) _) (p := ⟨w.heap.size, 1, none⟩) (Nat.le_refl _) _) (p := ⟨w.heap.size, 2, none⟩) (Nat.le_refl _) _) (p := ⟨w.heap.size, 3, none⟩) (Nat.le_refl _) _) (p := ⟨w.heap.size, 4, none⟩) (Nat.le_refl _) _) (p := ⟨w.heap.size, 5, none⟩) (Nat.le_refl _) _) (p := ⟨w.heap.size, 6, none⟩) (Nat.le_refl _) _) (p := ⟨w.heap.size, 7, none⟩) (Nat.le_refl _) _)⟩
theorem iRead_dm (t : ByteArray) : (iRead t).dm.size ≤ t.size := by
  have h : ∀ k, k + 1 ≤ (piecesL t).length → (iTo (piecesL t) k).dm.size ≤ t.size := by
    intro k
    induction k with
    | zero => intro _; exact Nat.zero_le _
    | succ k ih =>
      intro hk
      have h1 := ih (by omega)
      have h2 := pieces_at_small t (k + 1) (by omega)
      have h3 := (pairP_size (atL (piecesL t) (k + 1))).2
      rw [iTo]
      unfold iPut
      split
      · exact h1
      · split
        · exact h1
        · split
          · exact h1
          · split
            · exact h1
            · unfold iVal
              split
              · exact Nat.le_trans h3 h2
              · split
                · exact h1
                · split <;> exact h1
  unfold iRead
  have := pieces_pos t
  exact h _ (by omega)
set_option maxRecDepth 10000 in
set_option maxHeartbeats 16000000 in
theorem setRead_any (t : ByteArray) (w : World) (hG : MaxI w) (hT : PowI w) (hE : ErrI w) :
    Calls Tryd.prog 23 #[.string t] w fun e w' => e = .returned (scOutV (scGot t).1 (scGot t).2) ∧ Below w.heap.size w w' := by
  by_cases h8 : 8000 < t.size
  · have HX : Hid (scGot t = (scZ, 2)) := by show _ = _; unfold scGot; rw [if_pos h8]
    go_enter Tryd.func23, Tryd.ntmps23
    go_wp2
    exact bodyPost_ret (v := scOutV scZ 2) (by simp [scOutV, scZ, results, Tryd.results23, go_sem]) rfl ⟨by rw [HX.out], (Below.refl _ _).alloc (Nat.le_refl _) _⟩
  have q8 : decide ((8000 : Int) < (t.size : Int)) = false := by rw [decide_eq_false_iff_not]; omega
  have hsame := readers_same t
  have HG : Hid (scGot t = if iOk t = true then (iRead t, 0) else (scZ, 3)) := by
    show _ = _
    unfold scGot
    rw [if_neg h8, hsame.1]
    by_cases ho : scOk t = true
    · rw [if_pos ho, if_pos ho, hsame.2 ho]
    · rw [if_neg ho, if_neg ho]
  have HO : Hid (iOk t = (setB (iRead t).na (iRead t).va (iRead t).dm (iRead t).pa (iRead t).ag (iRead t).mo && ((scTx (iRead t)).toList == t.toList))) := rfl
  have KP : Hid (∀ W, Below w.heap.size w W → Calls Tryd.prog 54 #[.string t] W fun e w' => e = .returned (.agg #[.string (iRead t).na, .string (iRead t).va, .string (iRead t).dm, .string (iRead t).pa, .int .i64 (iRead t).ag, .bool (iRead t).se, .int .i64 (iRead t).mo, .bool (iRead t).pt]) ∧ Below W.heap.size W w') := fun W hb => setParts_any t W (hG.on hb) (hE.on hb) (by omega)
  have hdm := iRead_dm t
  have KR : Hid (∀ W, Below w.heap.size w W → Calls Tryd.prog 19 #[.agg #[.string (iRead t).na, .string (iRead t).va, .string (iRead t).dm, .string (iRead t).pa, .int .i64 (iRead t).ag, .bool (iRead t).se, .int .i64 (iRead t).mo, .bool (iRead t).pt]] W fun e w' => e = .returned (.bool (setB (iRead t).na (iRead t).va (iRead t).dm (iRead t).pa (iRead t).ag (iRead t).mo)) ∧ Below W.heap.size W w') := fun W hb => setRight_any _ _ _ _ _ _ _ _ W (hG.on hb) (by omega)
  have KT : Hid (∀ W, Below w.heap.size w W → Calls Tryd.prog 21 #[.agg #[.string (iRead t).na, .string (iRead t).va, .string (iRead t).dm, .string (iRead t).pa, .int .i64 (iRead t).ag, .bool (iRead t).se, .int .i64 (iRead t).mo, .bool (iRead t).pt]] W fun e w' => e = .returned (.string (scTx (iRead t))) ∧ Below W.heap.size W w') := fun W hb => setText_any _ _ _ _ _ _ _ _ W (hG.on hb) (hT.on hb) (by omega)
  clear hsame hdm hG hT hE
  generalize iOk t = ok at *
  generalize scGot t = R at *
  generalize scTx (iRead t) = tx at *
  generalize setB (iRead t).na (iRead t).va (iRead t).dm (iRead t).pa (iRead t).ag (iRead t).mo = sb at *
  generalize iRead t = c at *
  have hne : ¬ w.heap.size + 1 = w.heap.size := by omega
  have B0 : Hid (Below w.heap.size w (w.alloc (.cells #[.string ⟨#[]⟩, .string ⟨#[]⟩, .string ⟨#[]⟩, .string ⟨#[]⟩, .int .i64 0, .bool false, .int .i64 0, .bool false, .int .i64 0] 37))) := (Below.refl _ _).alloc (Nat.le_refl _) _
  have R0 : Hid (U9 (w.alloc (.cells #[.string ⟨#[]⟩, .string ⟨#[]⟩, .string ⟨#[]⟩, .string ⟨#[]⟩, .int .i64 0, .bool false, .int .i64 0, .bool false, .int .i64 0] 37)) w.heap.size (.string ⟨#[]⟩) (.string ⟨#[]⟩) (.string ⟨#[]⟩) (.string ⟨#[]⟩) (.int .i64 0) (.bool false) (.int .i64 0) (.bool false) (.int .i64 0)) := U9.made w (.string ⟨#[]⟩) (.string ⟨#[]⟩) (.string ⟨#[]⟩) (.string ⟨#[]⟩) (.int .i64 0) (.bool false) (.int .i64 0) (.bool false) (.int .i64 0) 37
  go_enter Tryd.func23, Tryd.ntmps23
  go_wp2_with fail
  refine (KP.out _ B0.out).mono ?_
  rintro e w1 ⟨rfl, hb1⟩
  have R1 : Hid (U9 w1 w.heap.size (.string ⟨#[]⟩) (.string ⟨#[]⟩) (.string ⟨#[]⟩) (.string ⟨#[]⟩) (.int .i64 0) (.bool false) (.int .i64 0) (.bool false) (.int .i64 0)) := R0.out.below hb1
  have B1 : Hid (Below w.heap.size w w1) := B0.out.trans (hb1.mono B0.out.size)
  clear hb1 R0 B0 KP
  have A1 : Hid (∀ o, Below w1.heap.size w1 (w1.alloc o)) := fun o => (Below.refl _ _).alloc (Nat.le_refl _) _
  have B2 : Hid (∀ o, Below w.heap.size w (w1.alloc o)) := fun o => B1.out.trans ((A1.out o).mono B1.out.size)
  have U2 : Hid (U8 (w1.alloc (.cells #[.string c.na, .string c.va, .string c.dm, .string c.pa, .int .i64 c.ag, .bool c.se, .int .i64 c.mo, .bool c.pt] 32)) w1.heap.size (.string c.na) (.string c.va) (.string c.dm) (.string c.pa) (.int .i64 c.ag) (.bool c.se) (.int .i64 c.mo) (.bool c.pt)) := U8.made w1 (.string c.na) (.string c.va) (.string c.dm) (.string c.pa) (.int .i64 c.ag) (.bool c.se) (.int .i64 c.mo) (.bool c.pt) 32
  have R2 : Hid (U9 (w1.alloc (.cells #[.string c.na, .string c.va, .string c.dm, .string c.pa, .int .i64 c.ag, .bool c.se, .int .i64 c.mo, .bool c.pt] 32)) w.heap.size (.string ⟨#[]⟩) (.string ⟨#[]⟩) (.string ⟨#[]⟩) (.string ⟨#[]⟩) (.int .i64 0) (.bool false) (.int .i64 0) (.bool false) (.int .i64 0)) := R1.out.below (A1.out _)
  go_upto_region 4 with fail
  have B2' : Hid (Below w.heap.size w (w1.alloc (.cells #[.string c.na, .string c.va, .string c.dm, .string c.pa, .int .i64 c.ag, .bool c.se, .int .i64 c.mo, .bool c.pt] 32))) := B2.out _
  generalize w1.alloc (.cells #[.string c.na, .string c.va, .string c.dm, .string c.pa, .int .i64 c.ag, .bool c.se, .int .i64 c.mo, .bool c.pt] 32) = w2 at *
  clear A1 B2 R1 B1
  obtain ⟨-, ⟨d0, d1, d2, d3, d4, d5, d6, d7⟩, df⟩ := U2.out
  go_wp2_with fail
  refine (KR.out _ B2'.out).mono ?_
  rintro e w3 ⟨rfl, hb3⟩
  have U3 : Hid (U8 w3 w1.heap.size (.string c.na) (.string c.va) (.string c.dm) (.string c.pa) (.int .i64 c.ag) (.bool c.se) (.int .i64 c.mo) (.bool c.pt)) := U2.out.below hb3
  have R3 : Hid (U9 w3 w.heap.size (.string ⟨#[]⟩) (.string ⟨#[]⟩) (.string ⟨#[]⟩) (.string ⟨#[]⟩) (.int .i64 0) (.bool false) (.int .i64 0) (.bool false) (.int .i64 0)) := R2.out.below hb3
  have B3 : Hid (Below w.heap.size w w3) := B2'.out.trans (hb3.mono B2'.out.size)
  clear hb3 U2 R2 B2' KR d0 d1 d2 d3 d4 d5 d6 d7 df
  obtain ⟨-, ⟨d0, d1, d2, d3, d4, d5, d6, d7⟩, df⟩ := U3.out
  cases sb with
  | false =>
    have HX : Hid (R = (scZ, 3)) := by show _ = _; rw [HG.out, HO.out]; rfl
    obtain ⟨-, ⟨r0, r1, r2, r3, r4, r5, r6, r7, r8⟩, fr⟩ := R3.out
    go_wp2
    exact bodyPost_ret (v := scOutV scZ 3) (by simp [scOutV, scZ, results, Tryd.results23, go_sem, r0, r1, r2, r3, r4, r5, r6, r7, r8]) rfl ⟨by rw [HX.out], (Below.setCell (Below.setCell (Below.setCell (Below.setCell (Below.setCell (Below.setCell (Below.setCell (Below.setCell (Below.setCell B3.out (p := ⟨w.heap.size, 0, none⟩) (Nat.le_refl _) _) (p := ⟨w.heap.size, 1, none⟩) (Nat.le_refl _) _) (p := ⟨w.heap.size, 2, none⟩) (Nat.le_refl _) _) (p := ⟨w.heap.size, 3, none⟩) (Nat.le_refl _) _) (p := ⟨w.heap.size, 4, none⟩) (Nat.le_refl _) _) (p := ⟨w.heap.size, 5, none⟩) (Nat.le_refl _) _) (p := ⟨w.heap.size, 6, none⟩) (Nat.le_refl _) _) (p := ⟨w.heap.size, 7, none⟩) (Nat.le_refl _) _) (p := ⟨w.heap.size, 8, none⟩) (Nat.le_refl _) _)⟩
  | true =>
    go_wp2_with fail
    refine (KT.out _ B3.out).mono ?_
    rintro e w4 ⟨rfl, hb4⟩
    have U4 : Hid (U8 w4 w1.heap.size (.string c.na) (.string c.va) (.string c.dm) (.string c.pa) (.int .i64 c.ag) (.bool c.se) (.int .i64 c.mo) (.bool c.pt)) := U3.out.below hb4
    have R4 : Hid (U9 w4 w.heap.size (.string ⟨#[]⟩) (.string ⟨#[]⟩) (.string ⟨#[]⟩) (.string ⟨#[]⟩) (.int .i64 0) (.bool false) (.int .i64 0) (.bool false) (.int .i64 0)) := R3.out.below hb4
    have B4 : Hid (Below w.heap.size w w4) := B3.out.trans (hb4.mono B3.out.size)
    clear hb4 U3 R3 B3 KT d0 d1 d2 d3 d4 d5 d6 d7 df
    obtain ⟨-, ⟨d0, d1, d2, d3, d4, d5, d6, d7⟩, df⟩ := U4.out
    obtain ⟨-, ⟨r0, r1, r2, r3, r4, r5, r6, r7, r8⟩, fr⟩ := R4.out
    cases hq : (tx.toList == t.toList) with
    | false =>
      have HX : Hid (R = (scZ, 3)) := by show _ = _; rw [HG.out, HO.out, hq]; rfl
      go_wp2
      exact bodyPost_ret (v := scOutV scZ 3) (by simp [scOutV, scZ, results, Tryd.results23, go_sem, r0, r1, r2, r3, r4, r5, r6, r7, r8]) rfl ⟨by rw [HX.out], (Below.setCell (Below.setCell (Below.setCell (Below.setCell (Below.setCell (Below.setCell (Below.setCell (Below.setCell (Below.setCell B4.out (p := ⟨w.heap.size, 0, none⟩) (Nat.le_refl _) _) (p := ⟨w.heap.size, 1, none⟩) (Nat.le_refl _) _) (p := ⟨w.heap.size, 2, none⟩) (Nat.le_refl _) _) (p := ⟨w.heap.size, 3, none⟩) (Nat.le_refl _) _) (p := ⟨w.heap.size, 4, none⟩) (Nat.le_refl _) _) (p := ⟨w.heap.size, 5, none⟩) (Nat.le_refl _) _) (p := ⟨w.heap.size, 6, none⟩) (Nat.le_refl _) _) (p := ⟨w.heap.size, 7, none⟩) (Nat.le_refl _) _) (p := ⟨w.heap.size, 8, none⟩) (Nat.le_refl _) _)⟩
    | true =>
      have HX : Hid (R = (c, 0)) := by show _ = _; rw [HG.out, HO.out, hq]; rfl
      go_wp2
      exact bodyPost_ret (v := scOutV c 0) (by simp [scOutV, results, Tryd.results23, go_sem, r0, r1, r2, r3, r4, r5, r6, r7, r8]) rfl ⟨by rw [HX.out], (Below.setCell (Below.setCell (Below.setCell (Below.setCell (Below.setCell (Below.setCell (Below.setCell (Below.setCell (Below.setCell B4.out (p := ⟨w.heap.size, 0, none⟩) (Nat.le_refl _) _) (p := ⟨w.heap.size, 1, none⟩) (Nat.le_refl _) _) (p := ⟨w.heap.size, 2, none⟩) (Nat.le_refl _) _) (p := ⟨w.heap.size, 3, none⟩) (Nat.le_refl _) _) (p := ⟨w.heap.size, 4, none⟩) (Nat.le_refl _) _) (p := ⟨w.heap.size, 5, none⟩) (Nat.le_refl _) _) (p := ⟨w.heap.size, 6, none⟩) (Nat.le_refl _) _) (p := ⟨w.heap.size, 7, none⟩) (Nat.le_refl _) _) (p := ⟨w.heap.size, 8, none⟩) (Nat.le_refl _) _)⟩
end Go.Proofs.YthcpmbolnmlohaaDoor

/- The walk of the program's PairsRead. -/
namespace Go.Proofs.YthcpmbolnmlohaaDoor
open Go.RowKit

theorem infoPair : (Tryd.prog.info? 64).map (fun i => (i.zero, i.size, i.bytes)) = some (some (.agg #[.string ⟨#[]⟩, .string ⟨#[]⟩]), 2, 32) := by kernel_rfl
theorem cell_two_new (w : World) (a b : Value) (t : TypeId) : ∀ j u, [a, b][j]? = some u → (w.alloc (.cells #[a, b] t)).cell? ((⟨w.heap.size, 0, none⟩ : Addr).add j) = some u := by
  intro j u h
  have e : (⟨w.heap.size, 0, none⟩ : Addr).add j = ⟨w.heap.size, j, none⟩ := by unfold Addr.add; split <;> simp_all
  rw [e]
  match j, h with
  | 0, h => simpa using h
  | 1, h => simpa using h
  | j + 2, h => simp at h
/-- the pairs of the first k pieces -/
def readP (L : List ByteArray) (k : Nat) : List (ByteArray × ByteArray) := (L.take k).map pairP
theorem readP_succ {L : List ByteArray} {k : Nat} (h : k < L.length) : readP L (k + 1) = readP L k ++ [((pairP (atL L k)).1, (pairP (atL L k)).2)] := by
  have e : atL L k = L[k] := by simp [atL, h]
  unfold readP
  rw [List.take_succ_eq_append_getElem h, List.map_append, e]; rfl
theorem readP_len (L : List ByteArray) (k : Nat) : (readP L k).length ≤ k := by unfold readP; simp; omega
theorem readP_small {t : ByteArray} (i : Nat) (h : i < (readP (piecesL t) (piecesL t).length).length) : (atP (readP (piecesL t) (piecesL t).length) i).1.size ≤ t.size ∧ (atP (readP (piecesL t) (piecesL t).length) i).2.size ≤ t.size := by
  have hm := List.getElem_mem h
  rw [← atP_eq h] at hm
  unfold readP at hm ⊢
  obtain ⟨x, hx, e⟩ := List.mem_map.1 hm
  rw [← e]
  have h1 := pairP_size x
  have h2 := piecesL_small t x (List.mem_of_mem_take hx)
  omega
set_option maxRecDepth 10000 in
set_option maxHeartbeats 8000000 in
theorem pairsRead_any (t : ByteArray) (w : World) (hG : MaxI w) :
    Calls Tryd.prog 26 #[.string t] w fun e w' => ∃ v, e = .returned (.agg #[v, .int .i64 (pairsGot t).2]) ∧ SliceP w' w.heap.size v (pairsGot t).1 ∧ Below w.heap.size w w' := by
  have HN : Hid (∀ (W : World) (B : Nat) (p : Option Addr) (c : Nat), SliceP W B (.slice p 0 c) []) := fun W B p c => sliceR_none W B 2 p c _
  by_cases h8 : 8000 < t.size
  · have HR : Hid (pairsGot t = ([], 2)) := by show _ = _; unfold pairsGot; rw [if_pos h8]
    generalize pairsGot t = R at *
    go_enter Tryd.func26, Tryd.ntmps26
    go_wp2
    exact bodyPost_ret (v := .agg #[.slice none 0 0, .int .i64 2]) (by simp [results, Tryd.results26, go_sem]) rfl ⟨.slice none 0 0, by rw [HR.out], by rw [HR.out]; exact HN.out _ _ _ _, (Below.refl _ _).alloc (Nat.le_refl _) _⟩
  have q8 : decide ((8000 : Int) < (t.size : Int)) = false := by rw [decide_eq_false_iff_not]; omega
  cases ht : t.toList.isEmpty with
  | true =>
    have HR : Hid (pairsGot t = ([], 0)) := by show _ = _; unfold pairsGot; rw [if_neg h8, if_pos ht]
    generalize pairsGot t = R at *
    go_enter Tryd.func26, Tryd.ntmps26
    go_wp2
    exact bodyPost_ret (v := .agg #[.slice none 0 0, .int .i64 0]) (by simp [results, Tryd.results26, go_sem]) rfl ⟨.slice none 0 0, by rw [HR.out], by rw [HR.out]; exact HN.out _ _ _ _, (Below.refl _ _).alloc (Nat.le_refl _) _⟩
  | false =>
    have HR0 : Hid (pairsGot t = if ((pairsT (readP (piecesL t) (piecesL t).length)).toList == t.toList) = true then (readP (piecesL t) (piecesL t).length, 0) else ([], 3)) := by
      show _ = _
      unfold pairsGot readP
      rw [if_neg h8, if_neg (by rw [ht]; decide), List.take_length]
    have KS : Hid (∀ W, Below w.heap.size w W → Calls Tryd.prog 36 #[.string t, .string ⟨#[59, 32]⟩] W fun e w' => e = .returned (.slice (some ⟨W.heap.size, 0, none⟩) (piecesL t).length (piecesL t).length) ∧ w' = W.alloc (.cells (strCells (piecesL t)).toArray 9)) := fun W hb => split_semi t W (hG.on hb) (by omega)
    have hlen := piecesL_len t
    have HSM : Hid (∀ i, i < (piecesL t).length → (atL (piecesL t) i).size ≤ 8000) := fun i hi => Nat.le_trans (pieces_at_small t i hi) (by omega)
    have HRS : Hid (∀ i, i < (readP (piecesL t) (piecesL t).length).length → (atP (readP (piecesL t) (piecesL t).length) i).1.size ≤ 1048576 ∧ (atP (readP (piecesL t) (piecesL t).length) i).2.size ≤ 1048576) := fun i hi => by
      have := readP_small i hi; omega
    have HCE : Hid (∀ (W : World) j, j < (piecesL t).length → (W.alloc (.cells (strCells (piecesL t)).toArray 9)).cell? ⟨W.heap.size, j, none⟩ = some (.string (atL (piecesL t) j))) := fun W j hj => by
      have e : atL (piecesL t) j = (piecesL t)[j] := by simp [atL, hj]
      rw [e]; simp [strCells, hj]
    have HG : Hid (MaxI w) := hG
    clear hG
    obtain ⟨i0, hi, hy0, hy1, hy2⟩ := info_parts infoPair
    generalize pairsGot t = R at *
    generalize piecesL t = L at *
    have hL : L.length ≤ 8001 := by omega
    clear hlen
    have W0 : Hid (∀ o, Below w.heap.size w (w.alloc o)) := fun o => (Below.refl _ _).alloc (Nat.le_refl _) _
    go_enter Tryd.func26, Tryd.ntmps26
    go_wp2_with fail
    refine (KS.out _ (W0.out _)).mono ?_
    rintro e w1 ⟨rfl, rfl⟩
    have HC1 : Hid (∀ j, j < L.length → ((w.alloc (.cells #[.slice none 0 0, .int .i64 0] 43)).alloc (.cells (strCells L).toArray 9)).cell? ⟨w.heap.size + 1, j, none⟩ = some (.string (atL L j))) := fun j hj => by
      have h := HCE.out (w.alloc (.cells #[.slice none 0 0, .int .i64 0] 43)) j hj
      have e : (w.alloc (.cells #[.slice none 0 0, .int .i64 0] 43)).heap.size = w.heap.size + 1 := by simp
      rw [e] at h; exact h
    have B1 : Hid (Below w.heap.size w ((w.alloc (.cells #[.slice none 0 0, .int .i64 0] 43)).alloc (.cells (strCells L).toArray 9))) := (W0.out _).alloc (by simp) _
    have Z1 : Hid (w.heap.size + 2 = ((w.alloc (.cells #[.slice none 0 0, .int .i64 0] 43)).alloc (.cells (strCells L).toArray 9)).heap.size) := by show _ = _; simp
    have g0 : ((w.alloc (.cells #[.slice none 0 0, .int .i64 0] 43)).alloc (.cells (strCells L).toArray 9)).cell? ⟨w.heap.size, 0, none⟩ = some (.slice none 0 0) := by rw [World.cell?_alloc_lt _ _ _ (by simp)]; simp
    have g1 : ((w.alloc (.cells #[.slice none 0 0, .int .i64 0] 43)).alloc (.cells (strCells L).toArray 9)).cell? ⟨w.heap.size, 1, none⟩ = some (.int .i64 0) := by rw [World.cell?_alloc_lt _ _ _ (by simp)]; simp
    have gf : ∀ o, ((w.alloc (.cells #[.slice none 0 0, .int .i64 0] 43)).alloc (.cells (strCells L).toArray 9)).frozen? ⟨w.heap.size, o, none⟩ = false := by intro o; simp
    have HGf : Hid (∀ (W : World), Below (w.heap.size + 2) ((w.alloc (.cells #[.slice none 0 0, .int .i64 0] 43)).alloc (.cells (strCells L).toArray 9)) W → W.cell? ⟨w.heap.size, 0, none⟩ = some (.slice none 0 0) ∧ W.cell? ⟨w.heap.size, 1, none⟩ = some (.int .i64 0) ∧ ∀ o, W.frozen? ⟨w.heap.size, o, none⟩ = false) := fun W hb => ⟨by rw [hb.cell (p := ⟨w.heap.size, 0, none⟩) (by show w.heap.size < w.heap.size + 2; omega)]; exact g0, by rw [hb.cell (p := ⟨w.heap.size, 1, none⟩) (by show w.heap.size < w.heap.size + 2; omega)]; exact g1, fun o => by rw [hb.frozen (p := ⟨w.heap.size, o, none⟩) (by show w.heap.size < w.heap.size + 2; omega)]; exact gf o⟩
    clear g0 g1 gf
    go_upto_region 7 with fail
    generalize (w.alloc (.cells #[.slice none 0 0, .int .i64 0] 43)).alloc (.cells (strCells L).toArray 9) = w1 at *
    clear HCE KS W0
    go_loopw [3, 16] (fun v i wr => ∃ k : Nat, k ≤ L.length ∧ i = .int .i64 k ∧ Hid (wr.ownsRow (w.heap.size + 2) 64 2 v (readP L k).length (pairCells (readP L k))) ∧ Hid (Below (w.heap.size + 2) w1 wr)) (fun _ i _ => L.length - (intOf i).toNat)
    case atStart => exact ⟨0, Nat.zero_le _, rfl, World.ownsRow_nil _ _ _ _, Below.refl _ _⟩
    case round =>
      obtain ⟨k, hk, rfl, HO, HB⟩ := hrel
      have hpl := readP_len L k
      have hbs : w.heap.size + 2 ≤ wr.heap.size := by have := Z1.out; have := HB.out.size; omega
      have BW : Hid (Below w.heap.size w wr) := B1.out.trans (HB.out.mono (by omega))
      by_cases hlt : k < L.length
      · have ck : wr.cell? ⟨w.heap.size + 1, k, none⟩ = some (.string (atL L k)) := by rw [HB.out.cell (p := ⟨w.heap.size + 1, k, none⟩) (by show w.heap.size + 1 < w.heap.size + 2; omega)]; exact HC1.out k hlt
        have k0 : (0 : Int) ≤ k := by omega
        have k1 : (k : Int) < L.length := by omega
        have KP : Hid (∀ W, Below w.heap.size w W → Calls Tryd.prog 59 #[.string (atL L k)] W fun e w' => e = .returned (.agg #[.string (pairP (atL L k)).1, .string (pairP (atL L k)).2]) ∧ Below W.heap.size W w') := fun W hb => pairParts_any _ W (HG.out.on hb) (HSM.out k hlt)
        have HP : Hid (readP L (k + 1) = readP L k ++ [((pairP (atL L k)).1, (pairP (atL L k)).2)]) := readP_succ hlt
        generalize (pairP (atL L k)).1 = n1 at *
        generalize (pairP (atL L k)).2 = v1 at *
        go_wp2_with fail
        refine (KP.out _ BW.out).mono ?_
        rintro e w3 ⟨rfl, hb3⟩
        have O3 : Hid (w3.ownsRow (w.heap.size + 2) 64 2 u3 (readP L k).length (pairCells (readP L k))) := ownR_below HO.out hb3
        have B3 : Hid (Below (w.heap.size + 2) w1 w3) := HB.out.trans (hb3.mono (by omega))
        have hz3 : w.heap.size + 2 ≤ w3.heap.size := by have := hb3.size; omega
        clear hb3 KP
        go_wp2_with (at_builtin; go_must (refine wpList_append_own _ rfl _ _ 41 rfl (w.heap.size + 2) 64 i0 (.agg #[.string ⟨#[]⟩, .string ⟨#[]⟩]) 2 32 Tryd.underlying41 hi hy0 hy1 hy2 rfl (by decide) _ _ _ rfl (O3.out.alloc _) ⟨w3.heap.size, 0, none⟩ 1 1 [.string n1, .string v1] rfl rfl (cell_two_new _ _ _ _) (by intro u hu; simp at hu; rcases hu with rfl | rfl <;> rfl) (by unfold maxLen; omega) (by omega) (by simp; omega) ?_))
        intro v4 w4 ho4 hg4 _
        have ho5 : w4.ownsRow (w.heap.size + 2) 64 2 v4 ((readP L k).length + 1) (pairCells (readP L k ++ [(n1, v1)])) := by rw [← pairCells_snoc]; exact ho4
        have G1 : Hid (w4.ownsRow (w.heap.size + 2) 64 2 v4 (readP L k ++ [(n1, v1)]).length (pairCells (readP L k ++ [(n1, v1)]))) := by show World.ownsRow _ _ _ _ _ _ _; rw [List.length_append]; exact ho5
        have G2 : Hid (Below (w.heap.size + 2) w1 w4) := (B3.out.alloc hz3 _).grown hg4 (by simp; omega) (fun j hj => (O3.out.lt j hj).1)
        clear ho4 hg4 ho5
        go_wp2
        go_roundw
        case rel => exact ⟨k + 1, by omega, by go_num, by rw [HP.out]; exact G1, G2⟩
        case measure => simp [intOf]; omega
      · obtain rfl : k = L.length := by omega
        have SP : Hid (SliceP wr (w.heap.size + 2) u3 (readP L L.length)) := sliceP_of_own HO.out
        have KT : Hid (Calls Tryd.prog 60 #[u3] wr fun e w' => e = .returned (.string (pairsT (readP L L.length))) ∧ Below wr.heap.size wr w') := pairsText_any u3 _ _ wr SP.out (by omega) HRS.out
        generalize readP L L.length = P at *
        generalize pairsT P = tx at *
        go_wp2_with fail
        refine KT.out.mono ?_
        rintro e w5 ⟨rfl, hb5⟩
        have S5 : Hid (SliceP w5 (w.heap.size + 2) u3 P) := SliceR.below SP.out hb5
        have B5 : Hid (Below (w.heap.size + 2) w1 w5) := HB.out.trans (hb5.mono (by omega))
        have BW5 : Hid (Below w.heap.size w w5) := BW.out.trans (hb5.mono BW.out.size)
        clear hb5 KT SP
        obtain ⟨g0, g1, gf⟩ := HGf.out w5 B5.out
        have FB : Hid (∀ a b, Below w.heap.size w ((w5.setCell ⟨w.heap.size, 0, none⟩ a).setCell ⟨w.heap.size, 1, none⟩ b)) := fun a b => (BW5.out.setCell (Nat.le_refl _) _).setCell (Nat.le_refl _) _
        have FS : Hid (∀ a b, SliceP ((w5.setCell ⟨w.heap.size, 0, none⟩ a).setCell ⟨w.heap.size, 1, none⟩ b) w.heap.size u3 P) := fun a b => by
          have h := SliceR.mono S5.out (show w.heap.size + 1 ≤ w.heap.size + 2 by omega)
          obtain ⟨p, cap, rfl, hh⟩ := S5.out
          refine ⟨p, cap, rfl, fun hn => ?_⟩
          obtain ⟨g, rfl, hB, hg, hc⟩ := hh hn
          refine ⟨g, rfl, by omega, by simpa [World.setCell] using hg, fun j hj o ho => ⟨?_, ?_⟩⟩
          · rw [World.cell?_setCell_far _ _ _ _ (by show ¬ w.heap.size = g; omega), World.cell?_setCell_far _ _ _ _ (by show ¬ w.heap.size = g; omega)]
            exact (hc j hj o ho).1
          · rw [World.frozen?_setCell, World.frozen?_setCell]; exact (hc j hj o ho).2
        obtain ⟨pP, cP, rfl, -⟩ := S5.out
        cases hq : (tx.toList == t.toList) with
        | true =>
          have HR : Hid (R = (P, 0)) := by show _ = _; rw [HR0.out, hq]; rfl
          go_wp2
          exact bodyPost_ret (v := .agg #[.slice pP P.length cP, .int .i64 0]) (by simp [results, Tryd.results26, go_sem, g0, g1]) rfl ⟨.slice pP P.length cP, by rw [HR.out], by rw [HR.out]; exact FS.out _ _, FB.out _ _⟩
        | false =>
          have HR : Hid (R = ([], 3)) := by show _ = _; rw [HR0.out, hq]; rfl
          go_wp2
          exact bodyPost_ret (v := .agg #[.slice none 0 0, .int .i64 3]) (by simp [results, Tryd.results26, go_sem, g0, g1]) rfl ⟨.slice none 0 0, by rw [HR.out], by rw [HR.out]; exact HN.out _ _ _ _, FB.out _ _⟩
end Go.Proofs.YthcpmbolnmlohaaDoor

/- The law FnExactPairsRead, walked. -/
namespace Go.Proofs.YthcpmbolnmlohaaDoor
open Go.RowKit
set_option maxRecDepth 10000 in
set_option maxHeartbeats 4000000 in
theorem lawPairsRead_any (t : ByteArray) (w : World) (hG : MaxI w) :
    Calls Tryd.prog 7 #[.string t] w fun e w' => e = .returned (.bool true) ∧ Below w.heap.size w w' := by
  by_cases h1 : 1048576 < t.size
  · go_enter Tryd.func7, Tryd.ntmps7
    go_wp2
    go_ret
    exact ⟨rfl, Below.refl _ _⟩
  have H1 : Hid (∀ W, Calls Tryd.prog 25 #[.string t] W fun e w' => ∃ v, e = .returned (.agg #[v, .int .i64 (pairsGot t).2]) ∧ SliceP w' W.heap.size v (pairsGot t).1 ∧ Below W.heap.size W w') := fun W => specPairsRead_any t W
  have H2 : Hid (∀ W, Below w.heap.size w W → Calls Tryd.prog 26 #[.string t] W fun e w' => ∃ v, e = .returned (.agg #[v, .int .i64 (pairsGot t).2]) ∧ SliceP w' W.heap.size v (pairsGot t).1 ∧ Below W.heap.size W w') := fun W hb => pairsRead_any t W (hG.on hb)
  have hn := pairsGot_len t
  clear hG
  generalize (pairsGot t).1 = L at *
  generalize (pairsGot t).2 = d at *
  go_enter Tryd.func7, Tryd.ntmps7
  go_wp2_with fail
  refine (H1.out _).mono ?_
  rintro e w1 ⟨v1, rfl, hs1, hb1⟩
  -- the specification's answer, put into a variable of its own
  have S1 : Hid (SliceP (w1.alloc (.cells #[v1, .int .i64 d] 43)) w.heap.size v1 L) := SliceR.below hs1 ((Below.refl _ _).alloc (Nat.le_refl _) _)
  obtain ⟨p1, c1, rfl, -⟩ := hs1
  have T1 : Hid ((w1.alloc (.cells #[.slice p1 L.length c1, .int .i64 d] 43)).cell? ⟨w1.heap.size, 0, none⟩ = some (.slice p1 L.length c1) ∧ (w1.alloc (.cells #[.slice p1 L.length c1, .int .i64 d] 43)).cell? ⟨w1.heap.size, 1, none⟩ = some (.int .i64 d)) := ⟨by simp, by simp⟩
  have B1 : Hid (Below w.heap.size w (w1.alloc (.cells #[.slice p1 L.length c1, .int .i64 d] 43))) := hb1.alloc hb1.size _
  have Z1 : Hid (w.heap.size ≤ w1.heap.size ∧ (w1.alloc (.cells #[.slice p1 L.length c1, .int .i64 d] 43)).heap.size = w1.heap.size + 1) := ⟨hb1.size, by simp⟩
  clear hb1 H1
  go_upto_region 4 with fail
  generalize w1.alloc (.cells #[.slice p1 L.length c1, .int .i64 d] 43) = w2 at *
  go_wp2_with fail
  refine (H2.out _ B1.out).mono ?_
  rintro e w3 ⟨v2, rfl, hs2, hb3⟩
  have A3 : Hid (Below w2.heap.size w2 (w3.alloc (.cells #[v2, .int .i64 d] 43))) := hb3.alloc hb3.size _
  have S2 : Hid (SliceP (w3.alloc (.cells #[v2, .int .i64 d] 43)) w2.heap.size v2 L) := SliceR.below hs2 ((Below.refl _ _).alloc (Nat.le_refl _) _)
  have L2 : Hid (0 < L.length → ∃ G, v2.ownBlock = some G ∧ w2.heap.size ≤ G ∧ G < w3.heap.size) := fun h => by
    obtain ⟨p, c, rfl, hh⟩ := hs2
    obtain ⟨g, rfl, hB, hg, -⟩ := hh h
    exact ⟨g, rfl, hB, hg⟩
  obtain ⟨p2, c2, rfl, -⟩ := hs2
  have T3 : Hid ((w3.alloc (.cells #[.slice p2 L.length c2, .int .i64 d] 43)).cell? ⟨w3.heap.size, 0, none⟩ = some (.slice p2 L.length c2) ∧ (w3.alloc (.cells #[.slice p2 L.length c2, .int .i64 d] 43)).cell? ⟨w3.heap.size, 1, none⟩ = some (.int .i64 d)) := ⟨by simp, by simp⟩
  have Z3 : Hid (w2.heap.size ≤ w3.heap.size ∧ (w3.alloc (.cells #[.slice p2 L.length c2, .int .i64 d] 43)).heap.size = w3.heap.size + 1) := ⟨hb3.size, by simp⟩
  have hw12 : w1.heap.size < w2.heap.size := by have := Z1.out.2; omega
  have T1' : Hid ((w3.alloc (.cells #[.slice p2 L.length c2, .int .i64 d] 43)).cell? ⟨w1.heap.size, 0, none⟩ = some (.slice p1 L.length c1) ∧ (w3.alloc (.cells #[.slice p2 L.length c2, .int .i64 d] 43)).cell? ⟨w1.heap.size, 1, none⟩ = some (.int .i64 d)) := ⟨by rw [(bcell A3.out).1 _ _ hw12]; exact T1.out.1, by rw [(bcell A3.out).1 _ _ hw12]; exact T1.out.2⟩
  have S1' : Hid (SliceP (w3.alloc (.cells #[.slice p2 L.length c2, .int .i64 d] 43)) w.heap.size (.slice p1 L.length c1) L) := SliceR.below S1.out A3.out
  have L1 : Hid (0 < L.length → ∀ g cap m, Value.slice p1 L.length c1 = .slice (some ⟨g, 0, none⟩) m cap → g < w2.heap.size) := SliceR.lt S1.out
  have B3 : Hid (Below w.heap.size w (w3.alloc (.cells #[.slice p2 L.length c2, .int .i64 d] 43))) := B1.out.trans (A3.out.mono B1.out.size)
  clear hb3 S1 T1 A3
  go_upto_region 5 with fail
  generalize w3.alloc (.cells #[.slice p2 L.length c2, .int .i64 d] 43) = w4 at *
  -- facts that go along: P W : all of them in a world W
  have zs : w.heap.size ≤ w1.heap.size ∧ w1.heap.size < w2.heap.size ∧ w2.heap.size ≤ w3.heap.size ∧ w3.heap.size + 1 = w4.heap.size := ⟨Z1.out.1, hw12, Z3.out.1, Z3.out.2.symm⟩
  obtain ⟨x0, x1⟩ := T1'.out
  obtain ⟨y0, y1⟩ := T3.out
  go_wp2_with fail
  refine (eqPairsOut_any _ _ d L _ _ _ S2.out S1'.out (by omega)).mono ?_
  rintro e w5 ⟨rfl, hb5⟩
  have C5 : ∀ (W : World), Below w4.heap.size w4 W → (W.cell? ⟨w1.heap.size, 0, none⟩ = some (.slice p1 L.length c1) ∧ W.cell? ⟨w1.heap.size, 1, none⟩ = some (.int .i64 d)) ∧ (W.cell? ⟨w3.heap.size, 0, none⟩ = some (.slice p2 L.length c2) ∧ W.cell? ⟨w3.heap.size, 1, none⟩ = some (.int .i64 d)) := fun W hb => ⟨⟨by rw [(bcell hb).1 _ _ (by omega)]; exact x0, by rw [(bcell hb).1 _ _ (by omega)]; exact x1⟩, ⟨by rw [(bcell hb).1 _ _ (by omega)]; exact y0, by rw [(bcell hb).1 _ _ (by omega)]; exact y1⟩⟩
  obtain ⟨⟨x0', x1'⟩, ⟨y0', y1'⟩⟩ := C5 w5 hb5
  have S2' : Hid (SliceP w5 w2.heap.size (.slice p2 L.length c2) L) := SliceR.below S2.out hb5
  have S1'' : Hid (SliceP w5 w.heap.size (.slice p1 L.length c1) L) := SliceR.below S1'.out hb5
  have B5 : Hid (Below w.heap.size w w5) := B3.out.trans (hb5.mono B3.out.size)
  have zs5 : w4.heap.size ≤ w5.heap.size := hb5.size
  clear hb5 C5 x0 x1 y0 y1 T1' T3 S2 S1' B3
  obtain ⟨G, hG, hG1, hG2⟩ : ∃ G, (0 < L.length → (Value.slice p2 L.length c2).ownBlock = some G) ∧ w2.heap.size ≤ G ∧ G ≠ w3.heap.size := by
    by_cases h0 : 0 < L.length
    · obtain ⟨G, e, h1, h2⟩ := L2.out h0
      exact ⟨G, fun _ => e, h1, by omega⟩
    · exact ⟨w3.heap.size + 1, fun h => absurd h h0, by omega, by omega⟩
  have KM : Hid (Calls Tryd.prog 28 #[.agg #[.slice p2 L.length c2, .int .i64 d], .int .i64 1] w5 fun e w' => e = .returned (.int .i64 ((1 + L.length * 2 : Nat) : Int)) ∧ SliceR w' w2.heap.size 2 (.slice p2 L.length c2) L.length (markPairC 1) ∧ w5.grownBy w' (some G)) := (markPairsOut_any _ _ _ 1 d _ w5 S2'.out (by omega) (by omega) (by omega)).mono fun e w' ⟨h1, h2, h3⟩ => ⟨h1, h2, h3 G hG⟩
  generalize hm : ((1 + L.length * 2 : Nat) : Int) = m at *
  have m0 : decide (m < 0) = false := by rw [decide_eq_false_iff_not]; omega
  have HMM : Hid (((1 + L.length * 2 : Nat) : Int) = m) := hm
  clear hm hG L2
  go_wp2_with fail
  refine KM.out.mono ?_
  rintro e w6 ⟨rfl, hs6, hg6⟩
  have x2 : w6.cell? ⟨w1.heap.size, 0, none⟩ = some (.slice p1 L.length c1) := hg6.cell x0' (by intro e; injection e with e; have : w1.heap.size = G := e; omega)
  have x3 : w6.cell? ⟨w1.heap.size, 1, none⟩ = some (.int .i64 d) := hg6.cell x1' (by intro e; injection e with e; have : w1.heap.size = G := e; omega)
  have y2 : w6.cell? ⟨w3.heap.size, 0, none⟩ = some (.slice p2 L.length c2) := hg6.cell y0' (by intro e; injection e with e; exact hG2 e.symm)
  have y3 : w6.cell? ⟨w3.heap.size, 1, none⟩ = some (.int .i64 d) := hg6.cell y1' (by intro e; injection e with e; exact hG2 e.symm)
  have A6 : Hid (Below w2.heap.size w5 w6) := Below.grown (Below.refl _ _) hg6 (by omega) (fun j hj => by injection hj with hj; omega)
  have S16 : Hid (SliceP w6 w.heap.size (.slice p1 L.length c1) L) := SliceR.kept S1''.out A6.out L1.out
  have S26 : Hid (SliceR w6 w2.heap.size 2 (.slice p2 L.length c2) L.length (markPairC 1)) := hs6
  have B6 : Hid (Below w.heap.size w w6) := B5.out.trans (A6.out.mono (by omega))
  have z6 : w4.heap.size ≤ w6.heap.size := Nat.le_trans zs5 hg6.size
  clear hs6 hg6 x0' x1' y0' y1' S1'' S2' A6 B5 KM L1
  have KH : Hid (∀ W, Below w6.heap.size w6 W → Calls Tryd.prog 29 #[.agg #[.slice p2 L.length c2, .int .i64 d], .int .i64 1] W fun e w' => e = .returned (.int .i64 m) ∧ Below W.heap.size W w') := fun W hb => by
    have h := heldPairsOut_any _ _ _ 1 d W (SliceR.below S26.out hb) (by omega) (by omega) (by omega)
    rw [HMM.out] at h; exact h
  go_wp2_with fail
  refine (KH.out _ (Below.refl _ _)).mono ?_
  rintro e w7 ⟨rfl, hb7⟩
  have x4 : w7.cell? ⟨w1.heap.size, 0, none⟩ = some (.slice p1 L.length c1) := by rw [(bcell hb7).1 _ _ (by omega)]; exact x2
  have x5 : w7.cell? ⟨w1.heap.size, 1, none⟩ = some (.int .i64 d) := by rw [(bcell hb7).1 _ _ (by omega)]; exact x3
  have y4 : w7.cell? ⟨w3.heap.size, 0, none⟩ = some (.slice p2 L.length c2) := by rw [(bcell hb7).1 _ _ (by omega)]; exact y2
  have y5 : w7.cell? ⟨w3.heap.size, 1, none⟩ = some (.int .i64 d) := by rw [(bcell hb7).1 _ _ (by omega)]; exact y3
  have A7 : Hid (Below w6.heap.size w6 w7) := hb7
  have z7 : w6.heap.size ≤ w7.heap.size := hb7.size
  clear hb7 x2 x3 y2 y3
  go_wp2_with fail
  refine (H2.out _ (B6.out.trans (A7.out.mono B6.out.size))).mono ?_
  rintro e w8 ⟨v3, rfl, hs8, hb8⟩
  have A8 : Hid (Below w6.heap.size w6 (w8.alloc (.cells #[v3, .int .i64 d] 43))) := (A7.out.trans (hb8.mono z7)).alloc (Nat.le_trans z7 hb8.size) _
  have S3 : Hid (SliceP (w8.alloc (.cells #[v3, .int .i64 d] 43)) w7.heap.size v3 L) := SliceR.below hs8 ((Below.refl _ _).alloc (Nat.le_refl _) _)
  have z8 : w7.heap.size ≤ w8.heap.size := hb8.size
  obtain ⟨p3, c3, rfl, -⟩ := hs8
  have C8 : Hid (∀ W, Below w7.heap.size w7 W → (W.cell? ⟨w1.heap.size, 0, none⟩ = some (.slice p1 L.length c1) ∧ W.cell? ⟨w1.heap.size, 1, none⟩ = some (.int .i64 d)) ∧ (W.cell? ⟨w3.heap.size, 0, none⟩ = some (.slice p2 L.length c2) ∧ W.cell? ⟨w3.heap.size, 1, none⟩ = some (.int .i64 d))) := fun W hb => ⟨⟨by rw [(bcell hb).1 _ _ (by omega)]; exact x4, by rw [(bcell hb).1 _ _ (by omega)]; exact x5⟩, ⟨by rw [(bcell hb).1 _ _ (by omega)]; exact y4, by rw [(bcell hb).1 _ _ (by omega)]; exact y5⟩⟩
  have T8 : Hid ((w8.alloc (.cells #[.slice p3 L.length c3, .int .i64 d] 43)).cell? ⟨w8.heap.size, 0, none⟩ = some (.slice p3 L.length c3) ∧ (w8.alloc (.cells #[.slice p3 L.length c3, .int .i64 d] 43)).cell? ⟨w8.heap.size, 1, none⟩ = some (.int .i64 d)) := ⟨by simp, by simp⟩
  have E8 : Hid (Below w7.heap.size w7 (w8.alloc (.cells #[.slice p3 L.length c3, .int .i64 d] 43))) := hb8.alloc hb8.size _
  clear hb8 x4 x5 y4 y5
  go_upto_region 16 with fail
  generalize w8.alloc (.cells #[.slice p3 L.length c3, .int .i64 d] 43) = w9 at *
  have S19 : Hid (SliceP w9 w.heap.size (.slice p1 L.length c1) L) := SliceR.below S16.out A8.out
  obtain ⟨⟨x0, x1⟩, ⟨y0, y1⟩⟩ := C8.out w9 E8.out
  obtain ⟨t0, t1⟩ := T8.out
  go_wp2_with fail
  refine (eqPairsOut_any _ _ d L _ _ _ S3.out S19.out (by omega)).mono ?_
  rintro e w10 ⟨rfl, hb10⟩
  have A10 : Hid (Below w6.heap.size w6 w10) := A8.out.trans (hb10.mono A8.out.size)
  have E10 : Below w7.heap.size w7 w10 := E8.out.trans (hb10.mono E8.out.size)
  clear x0 x1 y0 y1 t0 t1 hb10
  obtain ⟨-, ⟨y6, y7⟩⟩ := C8.out w10 E10
  clear E10
  go_wp2_with fail
  refine (KH.out _ A10.out).mono ?_
  rintro e w11 ⟨rfl, hb11⟩
  go_wp2
  go_ret
  exact ⟨rfl, B6.out.trans ((A10.out.mono B6.out.size).trans (hb11.mono (Nat.le_trans B6.out.size A10.out.size)))⟩
end Go.Proofs.YthcpmbolnmlohaaDoor

/- The lifting of a law's walk to a row that lists package-level variables, the world's shape kept; what the shape and the list give a walk. -/
namespace Go.Proofs.YthcpmbolnmlohaaDoor
open Go.RowKit

theorem Ld.own : ownKnob Tryd.prog.godebug = none := by kernel_rfl
theorem Ld.laidOut : laidOutB Tryd.prog = true := by kernel_rfl
set_option maxRecDepth 10000 in
theorem lift_laid {H : Type} {enc : TypeId × Value → H} {os : Os} {f : FuncId} {fn : Func} {s : ChangeSpec} {X : World → Prop} (hX : ∀ (w w' : World), w.heap = w'.heap → X w → X w')
    (started : os.Started) (noInit : Tryd.prog.inits.idxOf? f = none) (hfn : Tryd.prog.funcs[f]? = some fn)
    (start : ∃ (w : World) (tape : Tape) (i : Input), w.os = os ∧ (w.forCall tape i).Shaped Tryd.prog ∧ i.vars = [] ∧ Input.okWide Tryd.prog (w.forCall tape i) .any w.heap.size f i ∧
      ((s.pre enc Tryd.prog fn [] false (w.forCall tape i).memory i.args ∧ X (w.forCall tape i).memory) ∧ sizedMet enc Tryd.prog fn (OpenSpec.ofChange s) false (w.forCall tape i).memory i.args) ∧ Assume.holds {} Tryd.prog (lone (Frame.enter Tryd.prog f i.args .normal) [] (w.forCall tape i)))
    (walk : ∀ (W : World) (base : Nat) (args : Array Value) (ds gs : List (DataW H)) (before : List MemPlace),
      (∀ (j : Nat) t v, fn.params[j]? = some t → args[j]? = some v → Value.okWide Tryd.prog W .any base t v) →
      DataW.Whole enc Tryd.prog fn.params.toList s.vars false W args.toList ds gs before → X W → W.ShapedOpen Tryd.prog →
      Calls Tryd.prog f args W fun e W' => ∃ v, e = .returned v ∧ s.post enc Tryd.prog fn false true false false W args v W') :
    ReturnsInHanded {} Tryd.checked os f .any (fun w args => (s.pre enc Tryd.prog fn [] false w args ∧ X w) ∧ sizedMet enc Tryd.prog fn (OpenSpec.ofChange s) false w args) (s.post enc Tryd.prog fn false true false false) := by
  refine returnsInHanded_of_calls (C := Tryd.checked) Ld.own started noInit start ?_
  intro w tape i _ hsh _ hok hpre _
  obtain ⟨_, _, _, fn2, hfn2, _, _, _, _, hval⟩ := hok
  obtain rfl : fn2 = fn := Option.some.inj (hfn2.symm.trans hfn)
  obtain ⟨⟨⟨ds, gs, before, hw, _⟩, hx⟩, _⟩ := hpre
  have hw2 := DataW.Whole.of_heap (w' := w.forCall tape i) (by rfl) hw
  refine (walk (w.forCall tape i) w.heap.size i.args ds gs before hval hw2 (hX _ _ (by rfl) hx) hsh).mono fun e W' ⟨v, he, hp⟩ => ?_
  subst he
  exact ChangeSpec.post_blind hp
set_option maxRecDepth 10000 in
theorem maxI_of_shape {W : World} (h : W.ShapedOpen Tryd.prog) : MaxI W := Tryd.lays146.s1_3 W h
set_option maxRecDepth 10000 in
theorem Ld.pow : (Rows.laid_internal_strconv_uint64pow10 : DataW Unit) = Lib.tabData .u64 Lib.pow10Tab := by kernel_rfl
set_option maxRecDepth 10000 in
theorem pow_of_laid {W : World} {l : List (String × DataW Unit)} {a b : String × DataW Unit} {r : List (String × DataW Unit)} (hh : (l.all fun x => x.2.handleName?.isNone) = true)
    (hl : l = a :: b :: ("internal/strconv.uint64pow10", Rows.laid_internal_strconv_uint64pow10) :: r) (h : laidMetH Tryd.prog l W) : Lib.TabIs Tryd.prog W "internal/strconv.uint64pow10" .u64 Lib.pow10Tab := by
  rw [MakeChecks.laidMetH_plain _ _ _ hh, hl, Ld.pow] at h
  exact Lib.tabIs_of_head (g := 1) (t := 122) (e := 74) (n := 20) (by kernel_rfl) (by kernel_rfl) Tryd.underlying122 Tryd.underlying74 (by kernel_rfl) (by kernel_rfl) h.tail.tail
end Go.Proofs.YthcpmbolnmlohaaDoor

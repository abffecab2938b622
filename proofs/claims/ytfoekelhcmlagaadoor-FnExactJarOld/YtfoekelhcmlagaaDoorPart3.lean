/- 12 of this claim's texts, one behind the other. -/
import Derived.Test.YtfoekelhcmlagaaDoorPart2
import Derived.Test.YtfoekelhcmlagaaDoorPart1
import Derived.Deep.DeepCutAuto
import Derived.Deep.RegionHeld3
import Derived.WalkKit
import Derived.WalkSpells
import Derived.WalkLawsBesides
import Derived.Laws.ResultCell
/- The walk of the specification's JarOld. Written by jarold.py. -/
namespace Go.Proofs.YtfoekelhcmlagaaDoor
open Go.RowKit

set_option maxRecDepth 10000 in
set_option maxHeartbeats 8000000 in
theorem specOld_any (v : Value) (L : List Ck) (now : Int) (B : Nat) (w : World) (hs : SliceC w B v L) (hn : L.length ≤ 1048576) (hz : ∀ i, i < L.length → (atC L i).na.size ≤ 1048576 ∧ (atC L i).va.size ≤ 1048576) :
    Calls Tryd.prog 65 #[v, .int .i64 now] w fun e w' => ∃ v', e = .returned v' ∧ SliceC w' w.heap.size v' (oldL L now) ∧ Below w.heap.size w w' := by
  have KJ : Hid (∀ W, Below w.heap.size w W → Calls Tryd.prog 52 #[v] W fun e w' => e = .returned (.bool (jarB L)) ∧ Below W.heap.size W w') := fun W hb => specJar_any v L B W (hs.below hb) hn hz
  have KT : Hid (∀ W, Calls Tryd.prog 108 #[.int .i64 now] W fun e w' => e = .returned (.bool (timeB now)) ∧ w' = W) := fun W => specTime_any now W
  have HJ : Hid (jarB L = true → L.length ≤ 12) := fun h => (jarB_parts h).1
  have HNo : Hid ((jarB L && timeB now) = false → oldL L now = []) := fun h => oldL_no h
  have HYes : Hid ((jarB L && timeB now) = true → oldL L now = stayTo (liveB now) L L.length) := fun h => oldL_yes h
  obtain ⟨i0, hi, hy0, hy1, hy2⟩ := info_parts infoCookie
  obtain ⟨⟨q, cap, rfl, hg⟩, -⟩ := hs
  have HG : Hid (0 < L.length → ∃ g, q = some ⟨g, 0, none⟩ ∧ g < w.heap.size ∧ ∀ j, j < L.length → ∀ o, o < 10 → w.cell? ⟨g, j * 10 + o, none⟩ = some (ckC (atC L j) o)) := fun h0 => by
    obtain ⟨g, e, -, hgw, hc⟩ := hg h0
    exact ⟨g, e, hgw, fun j hj o ho => (hc j hj o ho).1⟩
  clear hg hz
  have B0 : Hid (Below w.heap.size w (w.alloc (.cells #[] 59))) := (Below.refl _ _).alloc (Nat.le_refl _) _
  have O0 : Hid ((w.alloc (.cells #[] 59)).ownsRow w.heap.size 59 10 (.slice (some ⟨w.heap.size, 0, none⟩) 0 0) 0 (ckCells [])) := World.ownsRow_made w #[] 0 (Nat.le_refl _) (Nat.zero_le _) rfl
  generalize oldL L now = Z at *
  by_cases h400 : 400 < L.length
  · have HZ : Hid (Z = []) := HNo.out (by
      cases hj : jarB L with
      | false => rfl
      | true => have := HJ.out hj; omega)
    have q0 : decide ((400 : Int) < (L.length : Int)) = true := by rw [decide_eq_true_iff]; omega
    go_enter Tryd.func65, Tryd.ntmps65
    go_wp2
    go_ret
    exact ⟨_, rfl, by rw [HZ.out]; exact sliceC_of_own O0.out, B0.out⟩
  have q0 : decide ((400 : Int) < (L.length : Int)) = false := by rw [decide_eq_false_iff_not]; omega
  go_enter Tryd.func65, Tryd.ntmps65
  go_wp2_with fail
  refine (KJ.out _ B0.out).mono ?_
  rintro e w1 ⟨rfl, hb1⟩
  have B1 : Hid (Below w.heap.size w w1) := B0.out.trans (hb1.mono B0.out.size)
  have O1 : Hid (w1.ownsRow w.heap.size 59 10 (.slice (some ⟨w.heap.size, 0, none⟩) 0 0) 0 (ckCells [])) := ownR_below O0.out hb1
  clear hb1 B0 O0 KJ
  generalize jarB L = bj at *
  cases bj with
  | false =>
    have HZ : Hid (Z = []) := HNo.out rfl
    go_wp2
    go_ret
    exact ⟨_, rfl, by rw [HZ.out]; exact sliceC_of_own O1.out, B1.out⟩
  | true =>
  have h12 := HJ.out rfl
  go_wp2_with fail
  refine (KT.out _).mono ?_
  rintro e w2 ⟨rfl, rfl⟩
  generalize timeB now = bt at *
  cases bt with
  | false =>
    have HZ : Hid (Z = []) := HNo.out rfl
    go_wp2
    go_ret
    exact ⟨_, rfl, by rw [HZ.out]; exact sliceC_of_own O1.out, B1.out⟩
  | true =>
  have HZ : Hid (Z = stayTo (liveB now) L L.length) := HYes.out rfl
  clear HNo HYes HJ
  have HLen : Hid (∀ k, (stayTo (liveB now) L k).length ≤ L.length) := fun k => stayTo_len _ L k
  go_wp2
  go_loopw [5, 6] (fun v i wr => ∃ k : Nat, k ≤ L.length ∧ i = .int .i64 k ∧ Hid (wr.ownsRow w.heap.size 59 10 v (stayTo (liveB now) L k).length (ckCells (stayTo (liveB now) L k))) ∧ Hid (Below w.heap.size w wr)) (fun _ i _ => L.length - (intOf i).toNat)
  case atStart => exact ⟨0, Nat.zero_le _, rfl, O1, B1⟩
  case round =>
    obtain ⟨k, hk, rfl, HO, HB⟩ := hrel
    have hle := HLen.out k
    have hws : w.heap.size ≤ wr.heap.size := HB.out.size
    by_cases hlt : k < L.length
    · obtain ⟨g, rfl, hgw, hc⟩ := HG.out (by omega)
      have HC : Hid (∀ j, j < L.length → ∀ o, o < 10 → w.cell? ⟨g, j * 10 + o, none⟩ = some (ckC (atC L j) o)) := hc
      have k0 : (0 : Int) ≤ k := by omega
      have k1 : (k : Int) < L.length := by omega
      have HKY : Hid (liveB now (atC L k) = true → ∀ (v : Value) (w' : World), w'.ownsRow w.heap.size 59 10 v ((stayTo (liveB now) L k).length + 1) (ckCells (stayTo (liveB now) L k) ++ ckVals (atC L k)) → w'.ownsRow w.heap.size 59 10 v (stayTo (liveB now) L (k + 1)).length (ckCells (stayTo (liveB now) L (k + 1)))) := fun a v w' h => by
        rw [stayTo_yes hlt a, ← ckCells_snoc, List.length_append]; exact h
      have HKN : Hid (liveB now (atC L k) = false → stayTo (liveB now) L (k + 1) = stayTo (liveB now) L k) := fun a => stayTo_no hlt a
      have HLV : Hid (liveB now (atC L k) = (((atC L k).un == 0) || decide (now < (atC L k).un))) := rfl
      clear hc
      have c0 : wr.cell? ⟨g, k * 10, none⟩ = some (.string (atC L k).na) := by rw [(bcell HB.out).1 _ _ hgw]; exact HC.out k hlt 0 (by omega)
      have c1 : wr.cell? ⟨g, k * 10 + 1, none⟩ = some (.string (atC L k).va) := by rw [(bcell HB.out).1 _ _ hgw]; exact HC.out k hlt 1 (by omega)
      have c2 : wr.cell? ⟨g, k * 10 + 2, none⟩ = some (.string (atC L k).ho) := by rw [(bcell HB.out).1 _ _ hgw]; exact HC.out k hlt 2 (by omega)
      have c3 : wr.cell? ⟨g, k * 10 + 3, none⟩ = some (.bool (atC L k).al) := by rw [(bcell HB.out).1 _ _ hgw]; exact HC.out k hlt 3 (by omega)
      have c4 : wr.cell? ⟨g, k * 10 + 4, none⟩ = some (.string (atC L k).pa) := by rw [(bcell HB.out).1 _ _ hgw]; exact HC.out k hlt 4 (by omega)
      have c5 : wr.cell? ⟨g, k * 10 + 5, none⟩ = some (.bool (atC L k).se) := by rw [(bcell HB.out).1 _ _ hgw]; exact HC.out k hlt 5 (by omega)
      have c6 : wr.cell? ⟨g, k * 10 + 6, none⟩ = some (.int .i64 (atC L k).mo) := by rw [(bcell HB.out).1 _ _ hgw]; exact HC.out k hlt 6 (by omega)
      have c7 : wr.cell? ⟨g, k * 10 + 7, none⟩ = some (.string (atC L k).pt) := by rw [(bcell HB.out).1 _ _ hgw]; exact HC.out k hlt 7 (by omega)
      have c8 : wr.cell? ⟨g, k * 10 + 8, none⟩ = some (.int .i64 (atC L k).un) := by rw [(bcell HB.out).1 _ _ hgw]; exact HC.out k hlt 8 (by omega)
      have c9 : wr.cell? ⟨g, k * 10 + 9, none⟩ = some (.int .i64 (atC L k).ma) := by rw [(bcell HB.out).1 _ _ hgw]; exact HC.out k hlt 9 (by omega)
      generalize liveB now (atC L k) = lv at *
      generalize atC L k = y at *
      obtain ⟨na, va, ho, al, pa, se, mo, pt, un, ma⟩ := y
      dsimp only at *
      generalize stayTo (liveB now) L k = Y at *
      by_cases hu : un = 0
      · have qu : (un == 0) = true := by rw [hu]; rfl
        have HL : Hid (lv = true) := by show _ = _; rw [HLV.out, qu]; rfl
        clear hu
        go_wp2_with (at_builtin; go_must (refine wpList_append_own _ rfl _ _ 65 rfl w.heap.size 59 i0 (.agg #[.string ⟨#[]⟩, .string ⟨#[]⟩, .string ⟨#[]⟩, .bool false, .string ⟨#[]⟩, .bool false, .int .i64 0, .string ⟨#[]⟩, .int .i64 0, .int .i64 0]) 10 120 Tryd.underlying65 hi hy0 hy1 hy2 rfl (by decide) _ _ _ rfl (HO.out.alloc _) ⟨wr.heap.size, 0, none⟩ 1 1 (ckVals ⟨na, va, ho, al, pa, se, mo, pt, un, ma⟩) rfl rfl (cell_ten _ ⟨na, va, ho, al, pa, se, mo, pt, un, ma⟩ _) (one_ten ⟨na, va, ho, al, pa, se, mo, pt, un, ma⟩) (by unfold maxLen; omega) (by omega) (by simp; omega) ?_))
        intro v1 w3 ho1 hg1 hn1
        have hb3 : Below w.heap.size w w3 := (HB.out.alloc HB.out.size _).grown hg1 (Nat.le_trans HB.out.size (by simp)) (fun j hj => own_base HO.out j hj)
        have O3 : Hid (w3.ownsRow w.heap.size 59 10 v1 (stayTo (liveB now) L (k + 1)).length (ckCells (stayTo (liveB now) L (k + 1)))) := HKY.out HL.out _ _ ho1
        have B3 : Hid (Below w.heap.size w w3) := hb3
        clear ho1 hg1 hn1 hb3
        go_wp2
        go_roundw
        case rel => exact ⟨k + 1, by omega, by go_num, O3, B3⟩
        case measure => simp [intOf]; omega
      · have qu : (un == 0) = false := by rw [beq_eq_false_iff_ne]; exact hu
        by_cases hw : now < un
        · have qw : decide (now < un) = true := by rw [decide_eq_true_iff]; exact hw
          have HL : Hid (lv = true) := by show _ = _; rw [HLV.out, qu, qw]; rfl
          clear hu hw
          go_wp2_with (at_builtin; go_must (refine wpList_append_own _ rfl _ _ 65 rfl w.heap.size 59 i0 (.agg #[.string ⟨#[]⟩, .string ⟨#[]⟩, .string ⟨#[]⟩, .bool false, .string ⟨#[]⟩, .bool false, .int .i64 0, .string ⟨#[]⟩, .int .i64 0, .int .i64 0]) 10 120 Tryd.underlying65 hi hy0 hy1 hy2 rfl (by decide) _ _ _ rfl (HO.out.alloc _) ⟨wr.heap.size, 0, none⟩ 1 1 (ckVals ⟨na, va, ho, al, pa, se, mo, pt, un, ma⟩) rfl rfl (cell_ten _ ⟨na, va, ho, al, pa, se, mo, pt, un, ma⟩ _) (one_ten ⟨na, va, ho, al, pa, se, mo, pt, un, ma⟩) (by unfold maxLen; omega) (by omega) (by simp; omega) ?_))
          intro v1 w3 ho1 hg1 hn1
          have hb3 : Below w.heap.size w w3 := (HB.out.alloc HB.out.size _).grown hg1 (Nat.le_trans HB.out.size (by simp)) (fun j hj => own_base HO.out j hj)
          have O3 : Hid (w3.ownsRow w.heap.size 59 10 v1 (stayTo (liveB now) L (k + 1)).length (ckCells (stayTo (liveB now) L (k + 1)))) := HKY.out HL.out _ _ ho1
          have B3 : Hid (Below w.heap.size w w3) := hb3
          clear ho1 hg1 hn1 hb3
          go_wp2
          go_roundw
          case rel => exact ⟨k + 1, by omega, by go_num, O3, B3⟩
          case measure => simp [intOf]; omega
        · have qw : decide (now < un) = false := by rw [decide_eq_false_iff_not]; exact hw
          have HL : Hid (lv = false) := by show _ = _; rw [HLV.out, qu, qw]; rfl
          clear hu hw
          have HE := HKN.out HL.out
          have ON : Hid (∀ v : Value, wr.ownsRow w.heap.size 59 10 v Y.length (ckCells Y) → wr.ownsRow w.heap.size 59 10 v (stayTo (liveB now) L (k + 1)).length (ckCells (stayTo (liveB now) L (k + 1)))) := fun v h => by rw [HE]; exact h
          clear HE
          go_wp2
          go_roundw
          case rel => exact ⟨k + 1, by omega, by go_num, ON.out _ HO.out, HB⟩
          case measure => simp [intOf]; omega
    · obtain rfl : k = L.length := by omega
      go_wp2
      go_ret
      exact ⟨_, rfl, by rw [HZ.out]; exact sliceC_of_own HO.out, HB.out⟩
end Go.Proofs.YtfoekelhcmlagaaDoor

/- The walk of together: two texts put together in new memory. -/
namespace Go.Proofs.YtfoekelhcmlagaaDoor
open Go.RowKit


set_option maxRecDepth 10000 in
set_option maxHeartbeats 400000 in
theorem together_full (x y : ByteArray) (w : World) (hz : x.size + y.size ≤ 1000000) (hy : ¬ y = ByteArray.empty) :
    Calls Tryd.prog 79 #[.string x, .string y] w fun e w' => e = .returned (.string (x ++ y)) ∧ Below w.heap.size w w' := by
  obtain ⟨w1, Z, hmk, HG1, hZ, hs1, hb1⟩ := make_row (P := Tryd.prog) w 22 5 _ Tryd.underlying22 infoU8 ((x.size : Int) + (y.size : Int)) (x.size + y.size) (by omega) (by omega)
  go_enter Tryd.func79, Tryd.ntmps79
  go_wp2_with fail
  obtain ⟨w2, hc2, HG2, hs2, hB2⟩ := copy_text (P := Tryd.prog) w1 22 9 3 5 Tryd.underlying22 sizeU8 (some ⟨w.heap.size, 0, none⟩) (x.size + y.size) (x.size + y.size) x (by omega) w.heap.size 0 Z _ HG1 (fun _ => rfl) (by omega)
  have hb2 := hB2 _ _ hb1 (Nat.le_refl _)
  rw [hc2]
  clear hc2 hmk hB2 HG1 hb1
  go_wp2_with fail
  have hl2 : (splice Z 0 (Lib.byteCells x.data.toList)).length = x.size + y.size := by rw [length_splice _ _ _ (by rw [len_cells]; omega), hZ]
  obtain ⟨w3, hc3, HG3, hs3, hB3⟩ := copy_text (P := Tryd.prog) w2 22 9 3 5 Tryd.underlying22 sizeU8 (some ⟨w.heap.size, x.size, none⟩) y.size y.size y (by omega) w.heap.size x.size _ _ HG2 (fun _ => rfl) (by omega)
  have hb3 := hB3 _ _ hb2 (Nat.le_refl _)
  have HG4 : RowAt w3 w.heap.size 5 (Lib.byteCells (x.data.toList ++ y.data.toList) ++ []) := by
    have e := splice_two Z (Lib.byteCells x.data.toList) (Lib.byteCells y.data.toList) (by rw [len_cells, len_cells]; exact hZ)
    rw [len_cells] at e
    rw [e, ← byteCells_append, ← List.append_nil (Lib.byteCells _)] at HG3
    exact HG3
  rw [hc3]
  clear hc3 hB3 HG2 HG3 hb2 hl2
  go_wp2_with fail
  rw [text_of_row (P := Tryd.prog) w3 22 9 5 Tryd.underlying22 Tryd.underlying5 Tryd.underlying9 w.heap.size (x.size + y.size) (x.size + y.size) 5 _ _ HG4 (by rw [List.length_append, ← Lib.size_eq, ← Lib.size_eq])]
  go_wp2
  go_ret
  exact ⟨ret_text (text_append x y), hb3⟩

set_option maxRecDepth 10000 in
set_option maxHeartbeats 400000 in
theorem together_empty (x : ByteArray) (w : World) (hz : x.size ≤ 1000000) :
    Calls Tryd.prog 79 #[.string x, .string ByteArray.empty] w fun e w' => e = .returned (.string x) ∧ Below w.heap.size w w' := by
  obtain ⟨w1, Z, hmk, HG1, hZ, hs1, hb1⟩ := make_row (P := Tryd.prog) w 22 5 _ Tryd.underlying22 infoU8 (x.size : Int) x.size (by omega) (by omega)
  go_enter Tryd.func79, Tryd.ntmps79
  go_wp2_with fail
  obtain ⟨w2, hc2, HG2, hs2, hB2⟩ := copy_text (P := Tryd.prog) w1 22 9 3 5 Tryd.underlying22 sizeU8 (some ⟨w.heap.size, 0, none⟩) x.size x.size x (by omega) w.heap.size 0 Z _ HG1 (fun _ => rfl) (by omega)
  have hb2 := hB2 _ _ hb1 (Nat.le_refl _)
  rw [hc2]
  clear hc2 hmk hB2 HG1 hb1
  go_wp2_with fail
  have HG4 : RowAt w2 w.heap.size 5 (Lib.byteCells x.data.toList ++ []) := by
    have e : splice Z 0 (Lib.byteCells x.data.toList) = Lib.byteCells x.data.toList ++ [] := by
      unfold splice
      rw [List.drop_eq_nil_of_le (by rw [len_cells]; omega)]
      simp
    rw [e] at HG2
    exact HG2
  rw [Lib.run_copy_empty_string (P := Tryd.prog) w2 22 9 3 5 (some ⟨w.heap.size, 0, none⟩) 0 0 ByteArray.empty Tryd.underlying22 (by rw [Option.isSome_iff_exists]; exact ⟨1, sizeU8⟩) rfl]
  go_wp2_with fail
  rw [text_of_row (P := Tryd.prog) w2 22 9 5 Tryd.underlying22 Tryd.underlying5 Tryd.underlying9 w.heap.size x.size x.size 5 _ _ HG4 (by rw [← Lib.size_eq])]
  go_wp2
  go_ret
  exact ⟨rfl, hb2⟩
theorem together_any (x y : ByteArray) (w : World) (hz : x.size + y.size ≤ 1000000) :
    Calls Tryd.prog 79 #[.string x, .string y] w fun e w' => e = .returned (.string (x ++ y)) ∧ Below w.heap.size w w' := by
  by_cases hy : y = ByteArray.empty
  · subst hy
    rw [ByteArray.append_empty]
    exact together_empty x w (by omega)
  · exact together_full x y w hz hy

end Go.Proofs.YtfoekelhcmlagaaDoor

/- The walk of the program's cookieCopy. Written by jarown.py. -/
namespace Go.Proofs.YtfoekelhcmlagaaDoor
open Go.RowKit

set_option maxRecDepth 10000 in
set_option maxHeartbeats 8000000 in
theorem cookieCopy_any (c : Ck) (w : World) (hz : c.na.size + c.va.size + c.ho.size + c.pa.size + c.pt.size ≤ 1000000) :
    Calls Tryd.prog 160 #[ckV c] w fun e w' => e = .returned (ckV c) ∧ Below w.heap.size w w' := by
  obtain ⟨na, va, ho, al, pa, se, mo, pt, un, ma⟩ := c
  unfold ckV
  dsimp only at hz ⊢
  have K0 : Hid (∀ W, Calls Tryd.prog 79 #[.string na, .string ⟨#[]⟩] W fun e w' => e = .returned (.string na) ∧ Below W.heap.size W w') := fun W => together_empty na W (by omega)
  have K1 : Hid (∀ W, Calls Tryd.prog 79 #[.string va, .string ⟨#[]⟩] W fun e w' => e = .returned (.string va) ∧ Below W.heap.size W w') := fun W => together_empty va W (by omega)
  have K2 : Hid (∀ W, Calls Tryd.prog 79 #[.string ho, .string ⟨#[]⟩] W fun e w' => e = .returned (.string ho) ∧ Below W.heap.size W w') := fun W => together_empty ho W (by omega)
  have K4 : Hid (∀ W, Calls Tryd.prog 79 #[.string pa, .string ⟨#[]⟩] W fun e w' => e = .returned (.string pa) ∧ Below W.heap.size W w') := fun W => together_empty pa W (by omega)
  have K7 : Hid (∀ W, Calls Tryd.prog 79 #[.string pt, .string ⟨#[]⟩] W fun e w' => e = .returned (.string pt) ∧ Below W.heap.size W w') := fun W => together_empty pt W (by omega)
  obtain ⟨W0, hW⟩ : ∃ W0, W0 = ((w.alloc (.cells #[.string na, .string va, .string ho, .bool al, .string pa, .bool se, .int .i64 mo, .string pt, .int .i64 un, .int .i64 ma] 59)).alloc (.cells #[.string ⟨#[]⟩, .string ⟨#[]⟩, .string ⟨#[]⟩, .bool false, .string ⟨#[]⟩, .bool false, .int .i64 0, .string ⟨#[]⟩, .int .i64 0, .int .i64 0] 59)) := ⟨_, rfl⟩
  have hW0 : Hid (W0 = ((w.alloc (.cells #[.string na, .string va, .string ho, .bool al, .string pa, .bool se, .int .i64 mo, .string pt, .int .i64 un, .int .i64 ma] 59)).alloc (.cells #[.string ⟨#[]⟩, .string ⟨#[]⟩, .string ⟨#[]⟩, .bool false, .string ⟨#[]⟩, .bool false, .int .i64 0, .string ⟨#[]⟩, .int .i64 0, .int .i64 0] 59))) := hW
  have HB : Hid (Below w.heap.size w W0) := by show Below _ _ _; rw [hW]; exact ((Below.refl _ _).alloc (Nat.le_refl _) _).alloc (by simp) _
  have z1 : w.heap.size + 1 < W0.heap.size := by rw [hW]; simp
  have C0 : Hid (Cells W0 [(⟨w.heap.size, 0, none⟩, .string na), (⟨w.heap.size, 1, none⟩, .string va), (⟨w.heap.size, 2, none⟩, .string ho), (⟨w.heap.size, 3, none⟩, .bool al), (⟨w.heap.size, 4, none⟩, .string pa), (⟨w.heap.size, 5, none⟩, .bool se), (⟨w.heap.size, 6, none⟩, .int .i64 mo), (⟨w.heap.size, 7, none⟩, .string pt), (⟨w.heap.size, 8, none⟩, .int .i64 un), (⟨w.heap.size, 9, none⟩, .int .i64 ma), (⟨w.heap.size + 1, 0, none⟩, .string ⟨#[]⟩), (⟨w.heap.size + 1, 1, none⟩, .string ⟨#[]⟩), (⟨w.heap.size + 1, 2, none⟩, .string ⟨#[]⟩), (⟨w.heap.size + 1, 3, none⟩, .bool false), (⟨w.heap.size + 1, 4, none⟩, .string ⟨#[]⟩), (⟨w.heap.size + 1, 5, none⟩, .bool false), (⟨w.heap.size + 1, 6, none⟩, .int .i64 0), (⟨w.heap.size + 1, 7, none⟩, .string ⟨#[]⟩), (⟨w.heap.size + 1, 8, none⟩, .int .i64 0), (⟨w.heap.size + 1, 9, none⟩, .int .i64 0)]) := by
    show Cells _ _
    rw [hW]
    simp only [Cells]
    refine ⟨by first | (simp; done) | exact (World.cell?_alloc_at _ _ _ _ (by simp)).trans rfl, by first | (simp; done) | exact (World.cell?_alloc_at _ _ _ _ (by simp)).trans rfl, by first | (simp; done) | exact (World.cell?_alloc_at _ _ _ _ (by simp)).trans rfl, by first | (simp; done) | exact (World.cell?_alloc_at _ _ _ _ (by simp)).trans rfl, by first | (simp; done) | exact (World.cell?_alloc_at _ _ _ _ (by simp)).trans rfl, by first | (simp; done) | exact (World.cell?_alloc_at _ _ _ _ (by simp)).trans rfl, by first | (simp; done) | exact (World.cell?_alloc_at _ _ _ _ (by simp)).trans rfl, by first | (simp; done) | exact (World.cell?_alloc_at _ _ _ _ (by simp)).trans rfl, by first | (simp; done) | exact (World.cell?_alloc_at _ _ _ _ (by simp)).trans rfl, by first | (simp; done) | exact (World.cell?_alloc_at _ _ _ _ (by simp)).trans rfl, by first | (simp; done) | exact (World.cell?_alloc_at _ _ _ _ (by simp)).trans rfl, by first | (simp; done) | exact (World.cell?_alloc_at _ _ _ _ (by simp)).trans rfl, by first | (simp; done) | exact (World.cell?_alloc_at _ _ _ _ (by simp)).trans rfl, by first | (simp; done) | exact (World.cell?_alloc_at _ _ _ _ (by simp)).trans rfl, by first | (simp; done) | exact (World.cell?_alloc_at _ _ _ _ (by simp)).trans rfl, by first | (simp; done) | exact (World.cell?_alloc_at _ _ _ _ (by simp)).trans rfl, by first | (simp; done) | exact (World.cell?_alloc_at _ _ _ _ (by simp)).trans rfl, by first | (simp; done) | exact (World.cell?_alloc_at _ _ _ _ (by simp)).trans rfl, by first | (simp; done) | exact (World.cell?_alloc_at _ _ _ _ (by simp)).trans rfl, by first | (simp; done) | exact (World.cell?_alloc_at _ _ _ _ (by simp)).trans rfl, trivial⟩
  have FZ : Hid ((∀ o, W0.frozen? ⟨w.heap.size, o, none⟩ = false) ∧ ∀ o, W0.frozen? ⟨w.heap.size + 1, o, none⟩ = false) := by
    show _ ∧ _
    rw [hW]
    exact ⟨fun o => by rw [World.frozen?_alloc_past _ _ _ (by simp)]; simp, fun o => World.frozen?_alloc_at _ _ _ _ (by simp)⟩
  clear hW hz
  go_enter Tryd.func160, Tryd.ntmps160
  go_upto_region 1 with fail
  rw [← hW0.out]
  clear hW0
  have hcc0 := C0.out
  simp only [Cells] at hcc0
  obtain ⟨a0, a1, a2, a3, a4, a5, a6, a7, a8, a9, a10, a11, a12, a13, a14, a15, a16, a17, a18, a19, -⟩ := hcc0
  go_wp2_with fail
  refine (K0.out _).mono ?_
  rintro e w0 ⟨rfl, hb0⟩
  have CC0 : Hid (Cells w0 [(⟨w.heap.size, 0, none⟩, .string na), (⟨w.heap.size, 1, none⟩, .string va), (⟨w.heap.size, 2, none⟩, .string ho), (⟨w.heap.size, 3, none⟩, .bool al), (⟨w.heap.size, 4, none⟩, .string pa), (⟨w.heap.size, 5, none⟩, .bool se), (⟨w.heap.size, 6, none⟩, .int .i64 mo), (⟨w.heap.size, 7, none⟩, .string pt), (⟨w.heap.size, 8, none⟩, .int .i64 un), (⟨w.heap.size, 9, none⟩, .int .i64 ma), (⟨w.heap.size + 1, 0, none⟩, .string ⟨#[]⟩), (⟨w.heap.size + 1, 1, none⟩, .string ⟨#[]⟩), (⟨w.heap.size + 1, 2, none⟩, .string ⟨#[]⟩), (⟨w.heap.size + 1, 3, none⟩, .bool false), (⟨w.heap.size + 1, 4, none⟩, .string ⟨#[]⟩), (⟨w.heap.size + 1, 5, none⟩, .bool false), (⟨w.heap.size + 1, 6, none⟩, .int .i64 0), (⟨w.heap.size + 1, 7, none⟩, .string ⟨#[]⟩), (⟨w.heap.size + 1, 8, none⟩, .int .i64 0), (⟨w.heap.size + 1, 9, none⟩, .int .i64 0)]) := Cells.below C0.out hb0
  have BB0 : Hid (Below w.heap.size w w0) := HB.out.trans (hb0.mono HB.out.size)
  have FF0 : Hid ((∀ o, w0.frozen? ⟨w.heap.size, o, none⟩ = false) ∧ ∀ o, w0.frozen? ⟨w.heap.size + 1, o, none⟩ = false) := ⟨fun o => by rw [(bcell hb0).2 _ _ (by omega)]; exact FZ.out.1 o, fun o => by rw [(bcell hb0).2 _ _ (by omega)]; exact FZ.out.2 o⟩
  have zz0 : w.heap.size + 1 < w0.heap.size := Nat.lt_of_lt_of_le z1 hb0.size
  clear hb0 a0 a1 a2 a3 a4 a5 a6 a7 a8 a9 a10 a11 a12 a13 a14 a15 a16 a17 a18 a19
  have hcc1 := CC0.out
  simp only [Cells] at hcc1
  obtain ⟨b0, b1, b2, b3, b4, b5, b6, b7, b8, b9, b10, b11, b12, b13, b14, b15, b16, b17, b18, b19, -⟩ := hcc1
  have fz0 := FF0.out.1 0
  have se0 : w0.setCell ⟨w.heap.size, 0, none⟩ (.string na) = w0 := setCell_self b0
  go_wp2_with fail
  refine (K1.out _).mono ?_
  rintro e w1 ⟨rfl, hb1⟩
  have CC1 : Hid (Cells w1 [(⟨w.heap.size, 0, none⟩, .string na), (⟨w.heap.size, 1, none⟩, .string va), (⟨w.heap.size, 2, none⟩, .string ho), (⟨w.heap.size, 3, none⟩, .bool al), (⟨w.heap.size, 4, none⟩, .string pa), (⟨w.heap.size, 5, none⟩, .bool se), (⟨w.heap.size, 6, none⟩, .int .i64 mo), (⟨w.heap.size, 7, none⟩, .string pt), (⟨w.heap.size, 8, none⟩, .int .i64 un), (⟨w.heap.size, 9, none⟩, .int .i64 ma), (⟨w.heap.size + 1, 0, none⟩, .string ⟨#[]⟩), (⟨w.heap.size + 1, 1, none⟩, .string ⟨#[]⟩), (⟨w.heap.size + 1, 2, none⟩, .string ⟨#[]⟩), (⟨w.heap.size + 1, 3, none⟩, .bool false), (⟨w.heap.size + 1, 4, none⟩, .string ⟨#[]⟩), (⟨w.heap.size + 1, 5, none⟩, .bool false), (⟨w.heap.size + 1, 6, none⟩, .int .i64 0), (⟨w.heap.size + 1, 7, none⟩, .string ⟨#[]⟩), (⟨w.heap.size + 1, 8, none⟩, .int .i64 0), (⟨w.heap.size + 1, 9, none⟩, .int .i64 0)]) := Cells.below CC0.out hb1
  have BB1 : Hid (Below w.heap.size w w1) := BB0.out.trans (hb1.mono BB0.out.size)
  have FF1 : Hid ((∀ o, w1.frozen? ⟨w.heap.size, o, none⟩ = false) ∧ ∀ o, w1.frozen? ⟨w.heap.size + 1, o, none⟩ = false) := ⟨fun o => by rw [(bcell hb1).2 _ _ (by omega)]; exact FF0.out.1 o, fun o => by rw [(bcell hb1).2 _ _ (by omega)]; exact FF0.out.2 o⟩
  have zz1 : w.heap.size + 1 < w1.heap.size := Nat.lt_of_lt_of_le zz0 hb1.size
  clear hb1 b0 b1 b2 b3 b4 b5 b6 b7 b8 b9 b10 b11 b12 b13 b14 b15 b16 b17 b18 b19 fz0 se0
  have hcc2 := CC1.out
  simp only [Cells] at hcc2
  obtain ⟨d0, d1, d2, d3, d4, d5, d6, d7, d8, d9, d10, d11, d12, d13, d14, d15, d16, d17, d18, d19, -⟩ := hcc2
  have fz1 := FF1.out.1 1
  have se1 : w1.setCell ⟨w.heap.size, 1, none⟩ (.string va) = w1 := setCell_self d1
  go_wp2_with fail
  refine (K2.out _).mono ?_
  rintro e w2 ⟨rfl, hb2⟩
  have CC2 : Hid (Cells w2 [(⟨w.heap.size, 0, none⟩, .string na), (⟨w.heap.size, 1, none⟩, .string va), (⟨w.heap.size, 2, none⟩, .string ho), (⟨w.heap.size, 3, none⟩, .bool al), (⟨w.heap.size, 4, none⟩, .string pa), (⟨w.heap.size, 5, none⟩, .bool se), (⟨w.heap.size, 6, none⟩, .int .i64 mo), (⟨w.heap.size, 7, none⟩, .string pt), (⟨w.heap.size, 8, none⟩, .int .i64 un), (⟨w.heap.size, 9, none⟩, .int .i64 ma), (⟨w.heap.size + 1, 0, none⟩, .string ⟨#[]⟩), (⟨w.heap.size + 1, 1, none⟩, .string ⟨#[]⟩), (⟨w.heap.size + 1, 2, none⟩, .string ⟨#[]⟩), (⟨w.heap.size + 1, 3, none⟩, .bool false), (⟨w.heap.size + 1, 4, none⟩, .string ⟨#[]⟩), (⟨w.heap.size + 1, 5, none⟩, .bool false), (⟨w.heap.size + 1, 6, none⟩, .int .i64 0), (⟨w.heap.size + 1, 7, none⟩, .string ⟨#[]⟩), (⟨w.heap.size + 1, 8, none⟩, .int .i64 0), (⟨w.heap.size + 1, 9, none⟩, .int .i64 0)]) := Cells.below CC1.out hb2
  have BB2 : Hid (Below w.heap.size w w2) := BB1.out.trans (hb2.mono BB1.out.size)
  have FF2 : Hid ((∀ o, w2.frozen? ⟨w.heap.size, o, none⟩ = false) ∧ ∀ o, w2.frozen? ⟨w.heap.size + 1, o, none⟩ = false) := ⟨fun o => by rw [(bcell hb2).2 _ _ (by omega)]; exact FF1.out.1 o, fun o => by rw [(bcell hb2).2 _ _ (by omega)]; exact FF1.out.2 o⟩
  have zz2 : w.heap.size + 1 < w2.heap.size := Nat.lt_of_lt_of_le zz1 hb2.size
  clear hb2 d0 d1 d2 d3 d4 d5 d6 d7 d8 d9 d10 d11 d12 d13 d14 d15 d16 d17 d18 d19 fz1 se1
  have hcc3 := CC2.out
  simp only [Cells] at hcc3
  obtain ⟨e0, e1, e2, e3, e4, e5, e6, e7, e8, e9, e10, e11, e12, e13, e14, e15, e16, e17, e18, e19, -⟩ := hcc3
  have fz2 := FF2.out.1 2
  have se2 : w2.setCell ⟨w.heap.size, 2, none⟩ (.string ho) = w2 := setCell_self e2
  go_wp2_with fail
  refine (K4.out _).mono ?_
  rintro e w3 ⟨rfl, hb3⟩
  have CC3 : Hid (Cells w3 [(⟨w.heap.size, 0, none⟩, .string na), (⟨w.heap.size, 1, none⟩, .string va), (⟨w.heap.size, 2, none⟩, .string ho), (⟨w.heap.size, 3, none⟩, .bool al), (⟨w.heap.size, 4, none⟩, .string pa), (⟨w.heap.size, 5, none⟩, .bool se), (⟨w.heap.size, 6, none⟩, .int .i64 mo), (⟨w.heap.size, 7, none⟩, .string pt), (⟨w.heap.size, 8, none⟩, .int .i64 un), (⟨w.heap.size, 9, none⟩, .int .i64 ma), (⟨w.heap.size + 1, 0, none⟩, .string ⟨#[]⟩), (⟨w.heap.size + 1, 1, none⟩, .string ⟨#[]⟩), (⟨w.heap.size + 1, 2, none⟩, .string ⟨#[]⟩), (⟨w.heap.size + 1, 3, none⟩, .bool false), (⟨w.heap.size + 1, 4, none⟩, .string ⟨#[]⟩), (⟨w.heap.size + 1, 5, none⟩, .bool false), (⟨w.heap.size + 1, 6, none⟩, .int .i64 0), (⟨w.heap.size + 1, 7, none⟩, .string ⟨#[]⟩), (⟨w.heap.size + 1, 8, none⟩, .int .i64 0), (⟨w.heap.size + 1, 9, none⟩, .int .i64 0)]) := Cells.below CC2.out hb3
  have BB3 : Hid (Below w.heap.size w w3) := BB2.out.trans (hb3.mono BB2.out.size)
  have FF3 : Hid ((∀ o, w3.frozen? ⟨w.heap.size, o, none⟩ = false) ∧ ∀ o, w3.frozen? ⟨w.heap.size + 1, o, none⟩ = false) := ⟨fun o => by rw [(bcell hb3).2 _ _ (by omega)]; exact FF2.out.1 o, fun o => by rw [(bcell hb3).2 _ _ (by omega)]; exact FF2.out.2 o⟩
  have zz3 : w.heap.size + 1 < w3.heap.size := Nat.lt_of_lt_of_le zz2 hb3.size
  clear hb3 e0 e1 e2 e3 e4 e5 e6 e7 e8 e9 e10 e11 e12 e13 e14 e15 e16 e17 e18 e19 fz2 se2
  have hcc4 := CC3.out
  simp only [Cells] at hcc4
  obtain ⟨f0, f1, f2, f3, f4, f5, f6, f7, f8, f9, f10, f11, f12, f13, f14, f15, f16, f17, f18, f19, -⟩ := hcc4
  have fz3 := FF3.out.1 4
  have se3 : w3.setCell ⟨w.heap.size, 4, none⟩ (.string pa) = w3 := setCell_self f4
  go_wp2_with fail
  refine (K7.out _).mono ?_
  rintro e w4 ⟨rfl, hb4⟩
  have CC4 : Hid (Cells w4 [(⟨w.heap.size, 0, none⟩, .string na), (⟨w.heap.size, 1, none⟩, .string va), (⟨w.heap.size, 2, none⟩, .string ho), (⟨w.heap.size, 3, none⟩, .bool al), (⟨w.heap.size, 4, none⟩, .string pa), (⟨w.heap.size, 5, none⟩, .bool se), (⟨w.heap.size, 6, none⟩, .int .i64 mo), (⟨w.heap.size, 7, none⟩, .string pt), (⟨w.heap.size, 8, none⟩, .int .i64 un), (⟨w.heap.size, 9, none⟩, .int .i64 ma), (⟨w.heap.size + 1, 0, none⟩, .string ⟨#[]⟩), (⟨w.heap.size + 1, 1, none⟩, .string ⟨#[]⟩), (⟨w.heap.size + 1, 2, none⟩, .string ⟨#[]⟩), (⟨w.heap.size + 1, 3, none⟩, .bool false), (⟨w.heap.size + 1, 4, none⟩, .string ⟨#[]⟩), (⟨w.heap.size + 1, 5, none⟩, .bool false), (⟨w.heap.size + 1, 6, none⟩, .int .i64 0), (⟨w.heap.size + 1, 7, none⟩, .string ⟨#[]⟩), (⟨w.heap.size + 1, 8, none⟩, .int .i64 0), (⟨w.heap.size + 1, 9, none⟩, .int .i64 0)]) := Cells.below CC3.out hb4
  have BB4 : Hid (Below w.heap.size w w4) := BB3.out.trans (hb4.mono BB3.out.size)
  have FF4 : Hid ((∀ o, w4.frozen? ⟨w.heap.size, o, none⟩ = false) ∧ ∀ o, w4.frozen? ⟨w.heap.size + 1, o, none⟩ = false) := ⟨fun o => by rw [(bcell hb4).2 _ _ (by omega)]; exact FF3.out.1 o, fun o => by rw [(bcell hb4).2 _ _ (by omega)]; exact FF3.out.2 o⟩
  have zz4 : w.heap.size + 1 < w4.heap.size := Nat.lt_of_lt_of_le zz3 hb4.size
  clear hb4 f0 f1 f2 f3 f4 f5 f6 f7 f8 f9 f10 f11 f12 f13 f14 f15 f16 f17 f18 f19 fz3 se3
  have hcc5 := CC4.out
  simp only [Cells] at hcc5
  obtain ⟨g0, g1, g2, g3, g4, g5, g6, g7, g8, g9, g10, g11, g12, g13, g14, g15, g16, g17, g18, g19, -⟩ := hcc5
  have fz4 := FF4.out.1 7
  have se4 : w4.setCell ⟨w.heap.size, 7, none⟩ (.string pt) = w4 := setCell_self g7
  have r0 := FF4.out.2 0
  have r1 := FF4.out.2 1
  have r2 := FF4.out.2 2
  have r3 := FF4.out.2 3
  have r4 := FF4.out.2 4
  have r5 := FF4.out.2 5
  have r6 := FF4.out.2 6
  have r7 := FF4.out.2 7
  have r8 := FF4.out.2 8
  have r9 := FF4.out.2 9
  go_wp2
  exact bodyPost_ret (v := .agg #[.string na, .string va, .string ho, .bool al, .string pa, .bool se, .int .i64 mo, .string pt, .int .i64 un, .int .i64 ma]) (by simp [results, Tryd.results160, go_sem, g10, g11, g12, g13, g14, g15, g16, g17, g18, g19]) rfl ⟨rfl, (((((((((BB4.out.setCell (Nat.le_add_right _ 1) _).setCell (Nat.le_add_right _ 1) _).setCell (Nat.le_add_right _ 1) _).setCell (Nat.le_add_right _ 1) _).setCell (Nat.le_add_right _ 1) _).setCell (Nat.le_add_right _ 1) _).setCell (Nat.le_add_right _ 1) _).setCell (Nat.le_add_right _ 1) _).setCell (Nat.le_add_right _ 1) _).setCell (Nat.le_add_right _ 1) _⟩
end Go.Proofs.YtfoekelhcmlagaaDoor

/- The walks of the program's moment.ends, and of jarWithout over it. Written by jarwithout.py. -/
namespace Go.Proofs.YtfoekelhcmlagaaDoor
open Go.RowKit

set_option maxRecDepth 10000 in
set_option maxHeartbeats 1000000 in
theorem ends_any (now : Int) (c : Ck) (w : World) :
    Calls Tryd.prog 128 #[.int .i64 now, ckV c] w fun e w' => e = .returned (.bool (!(liveB now c))) ∧ Below w.heap.size w w' := by
  have HE : Hid (liveB now c = ((c.un == 0) || decide (now < c.un))) := rfl
  generalize liveB now c = R at *
  obtain ⟨na, va, ho, al, pa, se, mo, pt, un, ma⟩ := c
  unfold ckV
  dsimp only at HE ⊢
  by_cases hu : un = 0
  · have qu : (un == 0) = true := by rw [hu]; rfl
    have qn : (un != 0) = false := by rw [hu]; rfl
    have HR : Hid (R = true) := by show _ = _; rw [HE.out, qu]; rfl
    clear hu
    go_enter Tryd.func128, Tryd.ntmps128
    go_wp2
    go_ret
    exact ⟨ret_bool (by rw [HR.out]; rfl), (Below.refl _ _).alloc (Nat.le_refl _) _⟩
  · have qu : (un == 0) = false := by rw [beq_eq_false_iff_ne]; exact hu
    have qn : (un != 0) = true := by rw [bne_iff_ne]; exact hu
    have HR : Hid (R = decide (now < un)) := by show _ = _; rw [HE.out, qu]; rfl
    have HX : Hid ((!decide (now < un)) = decide (un ≤ now)) := by
      show _ = _
      by_cases h : now < un
      · rw [decide_eq_true h, decide_eq_false (by omega)]; rfl
      · rw [decide_eq_false h, decide_eq_true (by omega)]; rfl
    clear hu
    go_enter Tryd.func128, Tryd.ntmps128
    go_wp2
    go_ret
    exact ⟨ret_bool (by rw [HR.out, HX.out]), (Below.refl _ _).alloc (Nat.le_refl _) _⟩
set_option maxRecDepth 10000 in
set_option maxHeartbeats 8000000 in
theorem withoutEnds_any (v : Value) (L : List Ck) (now : Int) (B : Nat) (w : World)  (hs : SliceC w B v L) (hn : L.length ≤ 1048576) (hz : ∀ i, i < L.length → (atC L i).na.size + (atC L i).va.size + (atC L i).ho.size + (atC L i).pa.size + (atC L i).pt.size ≤ 1000000) :
    Calls Tryd.prog 127 #[v, .func (.func 128) #[.int .i64 now] #[]] w fun e w' => ∃ v', e = .returned v' ∧ SliceC w' w.heap.size v' (L.filter (liveB now)) ∧ Below w.heap.size w w' := by
  have KE : Hid (∀ j, j < L.length → ∀ W, Below w.heap.size w W → Calls Tryd.prog 128 #[.int .i64 now, ckV (atC L j)] W fun e w' => e = .returned (.bool (!((liveB now) (atC L j)))) ∧ Below W.heap.size W w') := fun j _ W _ => ends_any now (atC L j) W
  have KC : Hid (∀ j, j < L.length → ∀ W, Calls Tryd.prog 160 #[ckV (atC L j)] W fun e w' => e = .returned (ckV (atC L j)) ∧ Below W.heap.size W w') := fun j hj W => cookieCopy_any (atC L j) W (hz j hj)
  have HZ : Hid (L.filter (liveB now) = stayTo (liveB now) L L.length) := (stayTo_all _ L).symm
  have HLen : Hid (∀ k, (stayTo (liveB now) L k).length ≤ L.length) := fun k => stayTo_len _ L k
  have HSY : Hid (∀ k, k < L.length → (liveB now) (atC L k) = true → ∀ (v : Value) (w' : World), w'.ownsRow w.heap.size 59 10 v ((stayTo (liveB now) L k).length + 1) (ckCells (stayTo (liveB now) L k) ++ ckVals (atC L k)) → w'.ownsRow w.heap.size 59 10 v (stayTo (liveB now) L (k + 1)).length (ckCells (stayTo (liveB now) L (k + 1)))) := fun k hlt a v w' h => by
    rw [stayTo_yes hlt a, ← ckCells_snoc, List.length_append]; exact h
  have HSN : Hid (∀ k, k < L.length → (liveB now) (atC L k) = false → stayTo (liveB now) L (k + 1) = stayTo (liveB now) L k) := fun k hlt a => stayTo_no hlt a
  have HS0 : Hid (stayTo (liveB now) L 0 = []) := stayTo_zero _ L
  obtain ⟨i0, hi, hy0, hy1, hy2⟩ := info_parts infoCookie
  obtain ⟨⟨q, cap, rfl, hg⟩, -⟩ := hs
  have HG : Hid (0 < L.length → ∃ g, q = some ⟨g, 0, none⟩ ∧ g < w.heap.size ∧ ∀ j, j < L.length → ∀ o, o < 10 → w.cell? ⟨g, j * 10 + o, none⟩ = some (ckC (atC L j) o)) := fun h0 => by
    obtain ⟨g, e, -, hgw, hc⟩ := hg h0
    exact ⟨g, e, hgw, fun j hj o ho => (hc j hj o ho).1⟩
  clear hg hz
  generalize L.filter (liveB now) = Z at *
  generalize hst : (liveB now) = st at *
  clear hst
  go_enter Tryd.func127, Tryd.ntmps127
  go_wp2
  go_loopw [5, 10] (fun v i wr => ∃ k : Nat, k ≤ L.length ∧ i = .int .i64 k ∧ Hid (wr.ownsRow w.heap.size 59 10 v (stayTo st L k).length (ckCells (stayTo st L k))) ∧ Hid (Below w.heap.size w wr)) (fun _ i _ => L.length - (intOf i).toNat)
  case atStart => exact ⟨0, Nat.zero_le _, rfl, by show World.ownsRow _ _ _ _ _ _ _; rw [HS0.out]; exact World.ownsRow_nil _ _ _ _, Below.refl _ _⟩
  case round =>
    obtain ⟨k, hk, rfl, HO, HB⟩ := hrel
    have hle := HLen.out k
    have hws : w.heap.size ≤ wr.heap.size := HB.out.size
    by_cases hlt : k < L.length
    · obtain ⟨g, rfl, hgw, hc⟩ := HG.out (by omega)
      have HC : Hid (∀ j, j < L.length → ∀ o, o < 10 → w.cell? ⟨g, j * 10 + o, none⟩ = some (ckC (atC L j) o)) := hc
      have k0 : (0 : Int) ≤ k := by omega
      have k1 : (k : Int) < L.length := by omega
      have HKY := HSY.out k hlt
      have HKN := HSN.out k hlt
      have KE0 : ∀ W, Below wr.heap.size wr W → Calls Tryd.prog 128 #[.int .i64 now, ckV (atC L k)] W fun e w' => e = .returned (.bool (!(st (atC L k)))) ∧ Below W.heap.size W w' := fun W hb => KE.out k hlt W (HB.out.trans (hb.mono HB.out.size))
      have KC0 := KC.out k hlt
      clear hc
      have c0 : wr.cell? ⟨g, k * 10, none⟩ = some (.string (atC L k).na) := by rw [(bcell HB.out).1 _ _ hgw]; exact HC.out k hlt 0 (by omega)
      have c1 : wr.cell? ⟨g, k * 10 + 1, none⟩ = some (.string (atC L k).va) := by rw [(bcell HB.out).1 _ _ hgw]; exact HC.out k hlt 1 (by omega)
      have c2 : wr.cell? ⟨g, k * 10 + 2, none⟩ = some (.string (atC L k).ho) := by rw [(bcell HB.out).1 _ _ hgw]; exact HC.out k hlt 2 (by omega)
      have c3 : wr.cell? ⟨g, k * 10 + 3, none⟩ = some (.bool (atC L k).al) := by rw [(bcell HB.out).1 _ _ hgw]; exact HC.out k hlt 3 (by omega)
      have c4 : wr.cell? ⟨g, k * 10 + 4, none⟩ = some (.string (atC L k).pa) := by rw [(bcell HB.out).1 _ _ hgw]; exact HC.out k hlt 4 (by omega)
      have c5 : wr.cell? ⟨g, k * 10 + 5, none⟩ = some (.bool (atC L k).se) := by rw [(bcell HB.out).1 _ _ hgw]; exact HC.out k hlt 5 (by omega)
      have c6 : wr.cell? ⟨g, k * 10 + 6, none⟩ = some (.int .i64 (atC L k).mo) := by rw [(bcell HB.out).1 _ _ hgw]; exact HC.out k hlt 6 (by omega)
      have c7 : wr.cell? ⟨g, k * 10 + 7, none⟩ = some (.string (atC L k).pt) := by rw [(bcell HB.out).1 _ _ hgw]; exact HC.out k hlt 7 (by omega)
      have c8 : wr.cell? ⟨g, k * 10 + 8, none⟩ = some (.int .i64 (atC L k).un) := by rw [(bcell HB.out).1 _ _ hgw]; exact HC.out k hlt 8 (by omega)
      have c9 : wr.cell? ⟨g, k * 10 + 9, none⟩ = some (.int .i64 (atC L k).ma) := by rw [(bcell HB.out).1 _ _ hgw]; exact HC.out k hlt 9 (by omega)
      generalize st (atC L k) = lv at *
      generalize atC L k = y at *
      obtain ⟨na, va, ho, al, pa, se, mo, pt, un, ma⟩ := y
      unfold ckV at KE0 KC0
      dsimp only at *
      generalize stayTo st L k = Y at *
      obtain ⟨W0, hW⟩ : ∃ W0, W0 = wr.alloc (.cells #[.string na, .string va, .string ho, .bool al, .string pa, .bool se, .int .i64 mo, .string pt, .int .i64 un, .int .i64 ma] 59) := ⟨_, rfl⟩
      have hW0 : Hid (W0 = wr.alloc (.cells #[.string na, .string va, .string ho, .bool al, .string pa, .bool se, .int .i64 mo, .string pt, .int .i64 un, .int .i64 ma] 59)) := hW
      have HBr : Hid (Below wr.heap.size wr W0) := by show Below _ _ _; rw [hW]; exact (Below.refl _ _).alloc (Nat.le_refl _) _
      have n0 : W0.cell? ⟨wr.heap.size, 0, none⟩ = some (.string na) := by rw [hW]; simp
      have n1 : W0.cell? ⟨wr.heap.size, 1, none⟩ = some (.string va) := by rw [hW]; simp
      have n2 : W0.cell? ⟨wr.heap.size, 2, none⟩ = some (.string ho) := by rw [hW]; simp
      have n3 : W0.cell? ⟨wr.heap.size, 3, none⟩ = some (.bool al) := by rw [hW]; simp
      have n4 : W0.cell? ⟨wr.heap.size, 4, none⟩ = some (.string pa) := by rw [hW]; simp
      have n5 : W0.cell? ⟨wr.heap.size, 5, none⟩ = some (.bool se) := by rw [hW]; simp
      have n6 : W0.cell? ⟨wr.heap.size, 6, none⟩ = some (.int .i64 mo) := by rw [hW]; simp
      have n7 : W0.cell? ⟨wr.heap.size, 7, none⟩ = some (.string pt) := by rw [hW]; simp
      have n8 : W0.cell? ⟨wr.heap.size, 8, none⟩ = some (.int .i64 un) := by rw [hW]; simp
      have n9 : W0.cell? ⟨wr.heap.size, 9, none⟩ = some (.int .i64 ma) := by rw [hW]; simp
      have hbW : wr.heap.size < W0.heap.size := by rw [hW]; simp
      have KE1 : Hid (Calls Tryd.prog 128 #[.int .i64 now, .agg #[.string na, .string va, .string ho, .bool al, .string pa, .bool se, .int .i64 mo, .string pt, .int .i64 un, .int .i64 ma]] W0 fun e w' => e = .returned (.bool (!lv)) ∧ Below W0.heap.size W0 w') := KE0 W0 HBr.out
      have KC1 : Hid (∀ W, Calls Tryd.prog 160 #[.agg #[.string na, .string va, .string ho, .bool al, .string pa, .bool se, .int .i64 mo, .string pt, .int .i64 un, .int .i64 ma]] W fun e w' => e = .returned (.agg #[.string na, .string va, .string ho, .bool al, .string pa, .bool se, .int .i64 mo, .string pt, .int .i64 un, .int .i64 ma]) ∧ Below W.heap.size W w') := KC0
      have HKY1 : Hid (lv = true → ∀ (v : Value) (w' : World), w'.ownsRow w.heap.size 59 10 v (Y.length + 1) (ckCells Y ++ ckVals ⟨na, va, ho, al, pa, se, mo, pt, un, ma⟩) → w'.ownsRow w.heap.size 59 10 v (stayTo st L (k + 1)).length (ckCells (stayTo st L (k + 1)))) := HKY
      have HKN1 : Hid (lv = false → stayTo st L (k + 1) = Y) := HKN
      clear hW KE0 KC0 HKY HKN
      go_upto_region 5 with fail
      rw [← hW0.out]
      clear hW0 c0 c1 c2 c3 c4 c5 c6 c7 c8 c9
      generalize hbb : wr.heap.size = b at *
      go_wp2_with fail
      refine KE1.out.mono ?_
      rintro e w2 ⟨rfl, hb2⟩
      have A2 : Hid (Below b wr w2) := HBr.out.trans (hb2.mono (Nat.le_of_lt hbW))
      have x0 : w2.cell? ⟨b, 0, none⟩ = some (.string na) := ((bcell hb2).1 _ _ hbW).trans n0
      have x1 : w2.cell? ⟨b, 1, none⟩ = some (.string va) := ((bcell hb2).1 _ _ hbW).trans n1
      have x2 : w2.cell? ⟨b, 2, none⟩ = some (.string ho) := ((bcell hb2).1 _ _ hbW).trans n2
      have x3 : w2.cell? ⟨b, 3, none⟩ = some (.bool al) := ((bcell hb2).1 _ _ hbW).trans n3
      have x4 : w2.cell? ⟨b, 4, none⟩ = some (.string pa) := ((bcell hb2).1 _ _ hbW).trans n4
      have x5 : w2.cell? ⟨b, 5, none⟩ = some (.bool se) := ((bcell hb2).1 _ _ hbW).trans n5
      have x6 : w2.cell? ⟨b, 6, none⟩ = some (.int .i64 mo) := ((bcell hb2).1 _ _ hbW).trans n6
      have x7 : w2.cell? ⟨b, 7, none⟩ = some (.string pt) := ((bcell hb2).1 _ _ hbW).trans n7
      have x8 : w2.cell? ⟨b, 8, none⟩ = some (.int .i64 un) := ((bcell hb2).1 _ _ hbW).trans n8
      have x9 : w2.cell? ⟨b, 9, none⟩ = some (.int .i64 ma) := ((bcell hb2).1 _ _ hbW).trans n9
      have hb22 : b < w2.heap.size := Nat.lt_of_lt_of_le hbW hb2.size
      clear hb2 KE1 n0 n1 n2 n3 n4 n5 n6 n7 n8 n9
      cases lv with
      | false =>
        have HE := HKN1.out rfl
        have ON : Hid (∀ v : Value, wr.ownsRow w.heap.size 59 10 v Y.length (ckCells Y) → w2.ownsRow w.heap.size 59 10 v (stayTo st L (k + 1)).length (ckCells (stayTo st L (k + 1)))) := fun v h => by rw [HE]; exact ownR_below h (by rw [hbb]; exact A2.out)
        have BN : Hid (Below w.heap.size w w2) := HB.out.trans (by rw [← hbb] at A2; exact A2.out.mono HB.out.size)
        clear HE
        go_wp2
        go_roundw
        case rel => exact ⟨k + 1, by omega, by go_num, ON.out _ HO.out, BN⟩
        case measure => simp [intOf]; omega
      | true =>
        have HKY2 := HKY1.out rfl
        have HKY3 : Hid (∀ (v : Value) (w' : World), w'.ownsRow w.heap.size 59 10 v (Y.length + 1) (ckCells Y ++ ckVals ⟨na, va, ho, al, pa, se, mo, pt, un, ma⟩) → w'.ownsRow w.heap.size 59 10 v (stayTo st L (k + 1)).length (ckCells (stayTo st L (k + 1)))) := HKY2
        clear HKY1 HKN1 HKY2
        go_wp2_with fail
        refine (KC1.out _).mono ?_
        rintro e w3 ⟨rfl, hb3⟩
        have A3 : Below b wr w3 := A2.out.trans (hb3.mono (Nat.le_of_lt hb22))
        have O3 : Hid (∀ v : Value, wr.ownsRow w.heap.size 59 10 v Y.length (ckCells Y) → w3.ownsRow w.heap.size 59 10 v Y.length (ckCells Y)) := fun v h => ownR_below h (by rw [hbb]; exact A3)
        have B3 : Hid (Below w.heap.size w w3) := HB.out.trans (by rw [← hbb] at A3; exact A3.mono HB.out.size)
        have O4 : Hid (w3.ownsRow w.heap.size 59 10 _ Y.length (ckCells Y)) := O3.out _ HO.out
        have hw3 : w.heap.size ≤ w3.heap.size := B3.out.size
        clear hb3 A3 A2 HO O3 HB HBr x0 x1 x2 x3 x4 x5 x6 x7 x8 x9
        go_wp2_with (at_builtin; go_must (refine wpList_append_own _ rfl _ _ 65 rfl w.heap.size 59 i0 (.agg #[.string ⟨#[]⟩, .string ⟨#[]⟩, .string ⟨#[]⟩, .bool false, .string ⟨#[]⟩, .bool false, .int .i64 0, .string ⟨#[]⟩, .int .i64 0, .int .i64 0]) 10 120 Tryd.underlying65 hi hy0 hy1 hy2 rfl (by decide) _ _ _ rfl (O4.out.alloc _) ⟨w3.heap.size, 0, none⟩ 1 1 (ckVals ⟨na, va, ho, al, pa, se, mo, pt, un, ma⟩) rfl rfl (cell_ten _ ⟨na, va, ho, al, pa, se, mo, pt, un, ma⟩ _) (one_ten ⟨na, va, ho, al, pa, se, mo, pt, un, ma⟩) (by unfold maxLen; omega) (by omega) (by simp; omega) ?_))
        intro v1 w4 ho1 hg1 hn1
        have hb4 : Below w.heap.size w w4 := (B3.out.alloc B3.out.size _).grown hg1 (Nat.le_trans B3.out.size (by simp)) (fun j hj => own_base O4.out j hj)
        have O5 : Hid (w4.ownsRow w.heap.size 59 10 v1 (stayTo st L (k + 1)).length (ckCells (stayTo st L (k + 1)))) := HKY3.out _ _ ho1
        have B4 : Hid (Below w.heap.size w w4) := hb4
        clear ho1 hg1 hn1 hb4
        go_wp2
        go_roundw
        case rel => exact ⟨k + 1, by omega, by go_num, O5, B4⟩
        case measure => simp [intOf]; omega
    · obtain rfl : k = L.length := by omega
      go_wp2
      go_ret
      exact ⟨_, rfl, by rw [HZ.out]; exact sliceC_of_own HO.out, HB.out⟩
end Go.Proofs.YtfoekelhcmlagaaDoor

/- The walks of the program's cookiePlaceOf and cookiePlace.has, and of the library's IndexFunc and ContainsFunc over it. Written by implplace.py. -/
namespace Go.Proofs.YtfoekelhcmlagaaDoor
open Go.RowKit

/-- a cookie's place, as a value -/
def placeV (c : Ck) : Value := .agg #[.string c.ho, .bool c.al, .string c.pa, .string c.pt, .string c.na]
theorem beq_turn {α : Type} [BEq α] [LawfulBEq α] (a b : α) : (a == b) = (b == a) := by
  rw [Bool.eq_iff_iff, beq_iff_eq, beq_iff_eq]; exact eq_comm
theorem sameK_comm (a b : Ck) : sameK a b = sameK b a := by
  unfold sameK
  rw [beq_turn a.ho.toList, beq_turn a.al, beq_turn a.pa.toList, beq_turn a.pt.toList, beq_turn a.na.toList]
set_option maxRecDepth 10000 in
set_option maxHeartbeats 1000000 in
theorem placeOf_any (c : Ck) (w : World) :
    Calls Tryd.prog 116 #[ckV c] w fun e w' => e = .returned (placeV c) ∧ Below w.heap.size w w' := by
  obtain ⟨na, va, ho, al, pa, se, mo, pt, un, ma⟩ := c
  unfold ckV placeV
  dsimp only
  go_enter Tryd.func116, Tryd.ntmps116
  go_wp2
  exact bodyPost_ret (v := .agg #[.string ho, .bool al, .string pa, .string pt, .string na]) (by simp [results, Tryd.results116, go_sem]) rfl ⟨rfl, ((Below.refl _ _).alloc (Nat.le_refl _) _).alloc (by simp) _⟩
set_option maxRecDepth 10000 in
set_option maxHeartbeats 4000000 in
theorem has_any (a c : Ck) (w : World) :
    Calls Tryd.prog 117 #[placeV a, ckV c] w fun e w' => e = .returned (.bool (sameK a c)) ∧ Below w.heap.size w w' := by
  have KP0 : ∀ W, Calls Tryd.prog 116 #[ckV c] W fun e w' => e = .returned (placeV c) ∧ Below W.heap.size W w' := fun W => placeOf_any c W
  have HE : Hid (sameK a c = ((a.ho.toList == c.ho.toList) && (a.al == c.al) && (a.pa.toList == c.pa.toList) && (a.pt.toList == c.pt.toList) && (a.na.toList == c.na.toList))) := rfl
  generalize sameK a c = R at *
  obtain ⟨na2, va2, ho2, al2, pa2, se2, mo2, pt2, un2, ma2⟩ := a
  obtain ⟨na, va, ho, al, pa, se, mo, pt, un, ma⟩ := c
  unfold ckV placeV at *
  dsimp only at *
  have KP : Hid (∀ W, Calls Tryd.prog 116 #[.agg #[.string na, .string va, .string ho, .bool al, .string pa, .bool se, .int .i64 mo, .string pt, .int .i64 un, .int .i64 ma]] W fun e w' => e = .returned (.agg #[.string ho, .bool al, .string pa, .string pt, .string na]) ∧ Below W.heap.size W w') := KP0
  clear KP0
  obtain ⟨W0, hW⟩ : ∃ W0, W0 = ((w.alloc (.cells #[.string ho2, .bool al2, .string pa2, .string pt2, .string na2] 124)).alloc (.cells #[.string na, .string va, .string ho, .bool al, .string pa, .bool se, .int .i64 mo, .string pt, .int .i64 un, .int .i64 ma] 59)) := ⟨_, rfl⟩
  have hW0 : Hid (W0 = ((w.alloc (.cells #[.string ho2, .bool al2, .string pa2, .string pt2, .string na2] 124)).alloc (.cells #[.string na, .string va, .string ho, .bool al, .string pa, .bool se, .int .i64 mo, .string pt, .int .i64 un, .int .i64 ma] 59))) := hW
  have HB : Hid (Below w.heap.size w W0) := by show Below _ _ _; rw [hW]; exact ((Below.refl _ _).alloc (Nat.le_refl _) _).alloc (by simp) _
  have z0 : w.heap.size < W0.heap.size := by rw [hW]; simp; omega
  have z1 : w.heap.size + 1 < W0.heap.size := by rw [hW]; simp
  have p0 : W0.cell? ⟨w.heap.size, 0, none⟩ = some (.string ho2) := by rw [hW]; simp
  have p1 : W0.cell? ⟨w.heap.size, 1, none⟩ = some (.bool al2) := by rw [hW]; simp
  have p2 : W0.cell? ⟨w.heap.size, 2, none⟩ = some (.string pa2) := by rw [hW]; simp
  have p3 : W0.cell? ⟨w.heap.size, 3, none⟩ = some (.string pt2) := by rw [hW]; simp
  have p4 : W0.cell? ⟨w.heap.size, 4, none⟩ = some (.string na2) := by rw [hW]; simp
  have q0 : W0.cell? ⟨w.heap.size + 1, 0, none⟩ = some (.string na) := by rw [hW]; exact (World.cell?_alloc_at _ _ _ _ (by simp)).trans rfl
  have q1 : W0.cell? ⟨w.heap.size + 1, 1, none⟩ = some (.string va) := by rw [hW]; exact (World.cell?_alloc_at _ _ _ _ (by simp)).trans rfl
  have q2 : W0.cell? ⟨w.heap.size + 1, 2, none⟩ = some (.string ho) := by rw [hW]; exact (World.cell?_alloc_at _ _ _ _ (by simp)).trans rfl
  have q3 : W0.cell? ⟨w.heap.size + 1, 3, none⟩ = some (.bool al) := by rw [hW]; exact (World.cell?_alloc_at _ _ _ _ (by simp)).trans rfl
  have q4 : W0.cell? ⟨w.heap.size + 1, 4, none⟩ = some (.string pa) := by rw [hW]; exact (World.cell?_alloc_at _ _ _ _ (by simp)).trans rfl
  have q5 : W0.cell? ⟨w.heap.size + 1, 5, none⟩ = some (.bool se) := by rw [hW]; exact (World.cell?_alloc_at _ _ _ _ (by simp)).trans rfl
  have q6 : W0.cell? ⟨w.heap.size + 1, 6, none⟩ = some (.int .i64 mo) := by rw [hW]; exact (World.cell?_alloc_at _ _ _ _ (by simp)).trans rfl
  have q7 : W0.cell? ⟨w.heap.size + 1, 7, none⟩ = some (.string pt) := by rw [hW]; exact (World.cell?_alloc_at _ _ _ _ (by simp)).trans rfl
  have q8 : W0.cell? ⟨w.heap.size + 1, 8, none⟩ = some (.int .i64 un) := by rw [hW]; exact (World.cell?_alloc_at _ _ _ _ (by simp)).trans rfl
  have q9 : W0.cell? ⟨w.heap.size + 1, 9, none⟩ = some (.int .i64 ma) := by rw [hW]; exact (World.cell?_alloc_at _ _ _ _ (by simp)).trans rfl
  clear hW
  cases h0 : (ho2.toList == ho.toList) with
  | false =>
    have HQ : Hid (R = false) := by show _ = _; rw [HE.out]; simp only [*]; try rfl
    go_enter Tryd.func117, Tryd.ntmps117
    go_wp2_with fail
    rw [← hW0.out]
    go_region_held3 (fun w' => w'.cell? ⟨w.heap.size, 0, none⟩ = some (.string ho2) ∧ w'.cell? ⟨w.heap.size, 1, none⟩ = some (.bool al2) ∧ w'.cell? ⟨w.heap.size, 2, none⟩ = some (.string pa2) ∧ w'.cell? ⟨w.heap.size, 3, none⟩ = some (.string pt2) ∧ w'.cell? ⟨w.heap.size, 4, none⟩ = some (.string na2) ∧ w'.cell? ⟨w.heap.size + 1, 0, none⟩ = some (.string na) ∧ w'.cell? ⟨w.heap.size + 1, 1, none⟩ = some (.string va) ∧ w'.cell? ⟨w.heap.size + 1, 2, none⟩ = some (.string ho) ∧ w'.cell? ⟨w.heap.size + 1, 3, none⟩ = some (.bool al) ∧ w'.cell? ⟨w.heap.size + 1, 4, none⟩ = some (.string pa) ∧ w'.cell? ⟨w.heap.size + 1, 5, none⟩ = some (.bool se) ∧ w'.cell? ⟨w.heap.size + 1, 6, none⟩ = some (.int .i64 mo) ∧ w'.cell? ⟨w.heap.size + 1, 7, none⟩ = some (.string pt) ∧ w'.cell? ⟨w.heap.size + 1, 8, none⟩ = some (.int .i64 un) ∧ w'.cell? ⟨w.heap.size + 1, 9, none⟩ = some (.int .i64 ma)) (go_keep)
      (first | (go_at_call 116; refine (KP.out _).mono ?_; rintro e w2 ⟨rfl, hb2⟩; have A2 : Below W0.heap.size W0 w2 := (Below.drew (Below.refl _ _)).trans hb2; have l0 : w2.cell? ⟨w.heap.size, 0, none⟩ = some (.string ho2) := ((bcell A2).1 _ _ z0).trans p0; have l1 : w2.cell? ⟨w.heap.size, 1, none⟩ = some (.bool al2) := ((bcell A2).1 _ _ z0).trans p1; have l2 : w2.cell? ⟨w.heap.size, 2, none⟩ = some (.string pa2) := ((bcell A2).1 _ _ z0).trans p2; have l3 : w2.cell? ⟨w.heap.size, 3, none⟩ = some (.string pt2) := ((bcell A2).1 _ _ z0).trans p3; have l4 : w2.cell? ⟨w.heap.size, 4, none⟩ = some (.string na2) := ((bcell A2).1 _ _ z0).trans p4; have m0 : w2.cell? ⟨w.heap.size + 1, 0, none⟩ = some (.string na) := ((bcell A2).1 _ _ z1).trans q0; have m1 : w2.cell? ⟨w.heap.size + 1, 1, none⟩ = some (.string va) := ((bcell A2).1 _ _ z1).trans q1; have m2 : w2.cell? ⟨w.heap.size + 1, 2, none⟩ = some (.string ho) := ((bcell A2).1 _ _ z1).trans q2; have m3 : w2.cell? ⟨w.heap.size + 1, 3, none⟩ = some (.bool al) := ((bcell A2).1 _ _ z1).trans q3; have m4 : w2.cell? ⟨w.heap.size + 1, 4, none⟩ = some (.string pa) := ((bcell A2).1 _ _ z1).trans q4; have m5 : w2.cell? ⟨w.heap.size + 1, 5, none⟩ = some (.bool se) := ((bcell A2).1 _ _ z1).trans q5; have m6 : w2.cell? ⟨w.heap.size + 1, 6, none⟩ = some (.int .i64 mo) := ((bcell A2).1 _ _ z1).trans q6; have m7 : w2.cell? ⟨w.heap.size + 1, 7, none⟩ = some (.string pt) := ((bcell A2).1 _ _ z1).trans q7; have m8 : w2.cell? ⟨w.heap.size + 1, 8, none⟩ = some (.int .i64 un) := ((bcell A2).1 _ _ z1).trans q8; have m9 : w2.cell? ⟨w.heap.size + 1, 9, none⟩ = some (.int .i64 ma) := ((bcell A2).1 _ _ z1).trans q9))
    have B2 : Hid (Below w.heap.size w w2) := HB.out.trans (A2.mono HB.out.size)
    all_goals go_wp2
    all_goals go_ret
    all_goals exact ⟨ret_bool HQ.out.symm, B2.out⟩
  | true =>
    cases h1 : (al2 == al) with
    | false =>
      have HQ : Hid (R = false) := by show _ = _; rw [HE.out]; simp only [*]; try rfl
      go_enter Tryd.func117, Tryd.ntmps117
      go_wp2_with fail
      rw [← hW0.out]
      go_region_held3 (fun w' => w'.cell? ⟨w.heap.size, 0, none⟩ = some (.string ho2) ∧ w'.cell? ⟨w.heap.size, 1, none⟩ = some (.bool al2) ∧ w'.cell? ⟨w.heap.size, 2, none⟩ = some (.string pa2) ∧ w'.cell? ⟨w.heap.size, 3, none⟩ = some (.string pt2) ∧ w'.cell? ⟨w.heap.size, 4, none⟩ = some (.string na2) ∧ w'.cell? ⟨w.heap.size + 1, 0, none⟩ = some (.string na) ∧ w'.cell? ⟨w.heap.size + 1, 1, none⟩ = some (.string va) ∧ w'.cell? ⟨w.heap.size + 1, 2, none⟩ = some (.string ho) ∧ w'.cell? ⟨w.heap.size + 1, 3, none⟩ = some (.bool al) ∧ w'.cell? ⟨w.heap.size + 1, 4, none⟩ = some (.string pa) ∧ w'.cell? ⟨w.heap.size + 1, 5, none⟩ = some (.bool se) ∧ w'.cell? ⟨w.heap.size + 1, 6, none⟩ = some (.int .i64 mo) ∧ w'.cell? ⟨w.heap.size + 1, 7, none⟩ = some (.string pt) ∧ w'.cell? ⟨w.heap.size + 1, 8, none⟩ = some (.int .i64 un) ∧ w'.cell? ⟨w.heap.size + 1, 9, none⟩ = some (.int .i64 ma)) (go_keep)
        (first | (go_at_call 116; refine (KP.out _).mono ?_; rintro e w2 ⟨rfl, hb2⟩; have A2 : Below W0.heap.size W0 w2 := (Below.drew (Below.refl _ _)).trans hb2; have l0 : w2.cell? ⟨w.heap.size, 0, none⟩ = some (.string ho2) := ((bcell A2).1 _ _ z0).trans p0; have l1 : w2.cell? ⟨w.heap.size, 1, none⟩ = some (.bool al2) := ((bcell A2).1 _ _ z0).trans p1; have l2 : w2.cell? ⟨w.heap.size, 2, none⟩ = some (.string pa2) := ((bcell A2).1 _ _ z0).trans p2; have l3 : w2.cell? ⟨w.heap.size, 3, none⟩ = some (.string pt2) := ((bcell A2).1 _ _ z0).trans p3; have l4 : w2.cell? ⟨w.heap.size, 4, none⟩ = some (.string na2) := ((bcell A2).1 _ _ z0).trans p4; have m0 : w2.cell? ⟨w.heap.size + 1, 0, none⟩ = some (.string na) := ((bcell A2).1 _ _ z1).trans q0; have m1 : w2.cell? ⟨w.heap.size + 1, 1, none⟩ = some (.string va) := ((bcell A2).1 _ _ z1).trans q1; have m2 : w2.cell? ⟨w.heap.size + 1, 2, none⟩ = some (.string ho) := ((bcell A2).1 _ _ z1).trans q2; have m3 : w2.cell? ⟨w.heap.size + 1, 3, none⟩ = some (.bool al) := ((bcell A2).1 _ _ z1).trans q3; have m4 : w2.cell? ⟨w.heap.size + 1, 4, none⟩ = some (.string pa) := ((bcell A2).1 _ _ z1).trans q4; have m5 : w2.cell? ⟨w.heap.size + 1, 5, none⟩ = some (.bool se) := ((bcell A2).1 _ _ z1).trans q5; have m6 : w2.cell? ⟨w.heap.size + 1, 6, none⟩ = some (.int .i64 mo) := ((bcell A2).1 _ _ z1).trans q6; have m7 : w2.cell? ⟨w.heap.size + 1, 7, none⟩ = some (.string pt) := ((bcell A2).1 _ _ z1).trans q7; have m8 : w2.cell? ⟨w.heap.size + 1, 8, none⟩ = some (.int .i64 un) := ((bcell A2).1 _ _ z1).trans q8; have m9 : w2.cell? ⟨w.heap.size + 1, 9, none⟩ = some (.int .i64 ma) := ((bcell A2).1 _ _ z1).trans q9))
      have B2 : Hid (Below w.heap.size w w2) := HB.out.trans (A2.mono HB.out.size)
      all_goals go_wp2
      all_goals go_ret
      all_goals exact ⟨ret_bool HQ.out.symm, B2.out⟩
    | true =>
      cases h2 : (pa2.toList == pa.toList) with
      | false =>
        have HQ : Hid (R = false) := by show _ = _; rw [HE.out]; simp only [*]; try rfl
        go_enter Tryd.func117, Tryd.ntmps117
        go_wp2_with fail
        rw [← hW0.out]
        go_region_held3 (fun w' => w'.cell? ⟨w.heap.size, 0, none⟩ = some (.string ho2) ∧ w'.cell? ⟨w.heap.size, 1, none⟩ = some (.bool al2) ∧ w'.cell? ⟨w.heap.size, 2, none⟩ = some (.string pa2) ∧ w'.cell? ⟨w.heap.size, 3, none⟩ = some (.string pt2) ∧ w'.cell? ⟨w.heap.size, 4, none⟩ = some (.string na2) ∧ w'.cell? ⟨w.heap.size + 1, 0, none⟩ = some (.string na) ∧ w'.cell? ⟨w.heap.size + 1, 1, none⟩ = some (.string va) ∧ w'.cell? ⟨w.heap.size + 1, 2, none⟩ = some (.string ho) ∧ w'.cell? ⟨w.heap.size + 1, 3, none⟩ = some (.bool al) ∧ w'.cell? ⟨w.heap.size + 1, 4, none⟩ = some (.string pa) ∧ w'.cell? ⟨w.heap.size + 1, 5, none⟩ = some (.bool se) ∧ w'.cell? ⟨w.heap.size + 1, 6, none⟩ = some (.int .i64 mo) ∧ w'.cell? ⟨w.heap.size + 1, 7, none⟩ = some (.string pt) ∧ w'.cell? ⟨w.heap.size + 1, 8, none⟩ = some (.int .i64 un) ∧ w'.cell? ⟨w.heap.size + 1, 9, none⟩ = some (.int .i64 ma)) (go_keep)
          (first | (go_at_call 116; refine (KP.out _).mono ?_; rintro e w2 ⟨rfl, hb2⟩; have A2 : Below W0.heap.size W0 w2 := (Below.drew (Below.refl _ _)).trans hb2; have l0 : w2.cell? ⟨w.heap.size, 0, none⟩ = some (.string ho2) := ((bcell A2).1 _ _ z0).trans p0; have l1 : w2.cell? ⟨w.heap.size, 1, none⟩ = some (.bool al2) := ((bcell A2).1 _ _ z0).trans p1; have l2 : w2.cell? ⟨w.heap.size, 2, none⟩ = some (.string pa2) := ((bcell A2).1 _ _ z0).trans p2; have l3 : w2.cell? ⟨w.heap.size, 3, none⟩ = some (.string pt2) := ((bcell A2).1 _ _ z0).trans p3; have l4 : w2.cell? ⟨w.heap.size, 4, none⟩ = some (.string na2) := ((bcell A2).1 _ _ z0).trans p4; have m0 : w2.cell? ⟨w.heap.size + 1, 0, none⟩ = some (.string na) := ((bcell A2).1 _ _ z1).trans q0; have m1 : w2.cell? ⟨w.heap.size + 1, 1, none⟩ = some (.string va) := ((bcell A2).1 _ _ z1).trans q1; have m2 : w2.cell? ⟨w.heap.size + 1, 2, none⟩ = some (.string ho) := ((bcell A2).1 _ _ z1).trans q2; have m3 : w2.cell? ⟨w.heap.size + 1, 3, none⟩ = some (.bool al) := ((bcell A2).1 _ _ z1).trans q3; have m4 : w2.cell? ⟨w.heap.size + 1, 4, none⟩ = some (.string pa) := ((bcell A2).1 _ _ z1).trans q4; have m5 : w2.cell? ⟨w.heap.size + 1, 5, none⟩ = some (.bool se) := ((bcell A2).1 _ _ z1).trans q5; have m6 : w2.cell? ⟨w.heap.size + 1, 6, none⟩ = some (.int .i64 mo) := ((bcell A2).1 _ _ z1).trans q6; have m7 : w2.cell? ⟨w.heap.size + 1, 7, none⟩ = some (.string pt) := ((bcell A2).1 _ _ z1).trans q7; have m8 : w2.cell? ⟨w.heap.size + 1, 8, none⟩ = some (.int .i64 un) := ((bcell A2).1 _ _ z1).trans q8; have m9 : w2.cell? ⟨w.heap.size + 1, 9, none⟩ = some (.int .i64 ma) := ((bcell A2).1 _ _ z1).trans q9))
        have B2 : Hid (Below w.heap.size w w2) := HB.out.trans (A2.mono HB.out.size)
        all_goals go_wp2
        all_goals go_ret
        all_goals exact ⟨ret_bool HQ.out.symm, B2.out⟩
      | true =>
        cases h3 : (pt2.toList == pt.toList) with
        | false =>
          have HQ : Hid (R = false) := by show _ = _; rw [HE.out]; simp only [*]; try rfl
          go_enter Tryd.func117, Tryd.ntmps117
          go_wp2_with fail
          rw [← hW0.out]
          go_region_held3 (fun w' => w'.cell? ⟨w.heap.size, 0, none⟩ = some (.string ho2) ∧ w'.cell? ⟨w.heap.size, 1, none⟩ = some (.bool al2) ∧ w'.cell? ⟨w.heap.size, 2, none⟩ = some (.string pa2) ∧ w'.cell? ⟨w.heap.size, 3, none⟩ = some (.string pt2) ∧ w'.cell? ⟨w.heap.size, 4, none⟩ = some (.string na2) ∧ w'.cell? ⟨w.heap.size + 1, 0, none⟩ = some (.string na) ∧ w'.cell? ⟨w.heap.size + 1, 1, none⟩ = some (.string va) ∧ w'.cell? ⟨w.heap.size + 1, 2, none⟩ = some (.string ho) ∧ w'.cell? ⟨w.heap.size + 1, 3, none⟩ = some (.bool al) ∧ w'.cell? ⟨w.heap.size + 1, 4, none⟩ = some (.string pa) ∧ w'.cell? ⟨w.heap.size + 1, 5, none⟩ = some (.bool se) ∧ w'.cell? ⟨w.heap.size + 1, 6, none⟩ = some (.int .i64 mo) ∧ w'.cell? ⟨w.heap.size + 1, 7, none⟩ = some (.string pt) ∧ w'.cell? ⟨w.heap.size + 1, 8, none⟩ = some (.int .i64 un) ∧ w'.cell? ⟨w.heap.size + 1, 9, none⟩ = some (.int .i64 ma)) (go_keep)
            (first | (go_at_call 116; refine (KP.out _).mono ?_; rintro e w2 ⟨rfl, hb2⟩; have A2 : Below W0.heap.size W0 w2 := (Below.drew (Below.refl _ _)).trans hb2; have l0 : w2.cell? ⟨w.heap.size, 0, none⟩ = some (.string ho2) := ((bcell A2).1 _ _ z0).trans p0; have l1 : w2.cell? ⟨w.heap.size, 1, none⟩ = some (.bool al2) := ((bcell A2).1 _ _ z0).trans p1; have l2 : w2.cell? ⟨w.heap.size, 2, none⟩ = some (.string pa2) := ((bcell A2).1 _ _ z0).trans p2; have l3 : w2.cell? ⟨w.heap.size, 3, none⟩ = some (.string pt2) := ((bcell A2).1 _ _ z0).trans p3; have l4 : w2.cell? ⟨w.heap.size, 4, none⟩ = some (.string na2) := ((bcell A2).1 _ _ z0).trans p4; have m0 : w2.cell? ⟨w.heap.size + 1, 0, none⟩ = some (.string na) := ((bcell A2).1 _ _ z1).trans q0; have m1 : w2.cell? ⟨w.heap.size + 1, 1, none⟩ = some (.string va) := ((bcell A2).1 _ _ z1).trans q1; have m2 : w2.cell? ⟨w.heap.size + 1, 2, none⟩ = some (.string ho) := ((bcell A2).1 _ _ z1).trans q2; have m3 : w2.cell? ⟨w.heap.size + 1, 3, none⟩ = some (.bool al) := ((bcell A2).1 _ _ z1).trans q3; have m4 : w2.cell? ⟨w.heap.size + 1, 4, none⟩ = some (.string pa) := ((bcell A2).1 _ _ z1).trans q4; have m5 : w2.cell? ⟨w.heap.size + 1, 5, none⟩ = some (.bool se) := ((bcell A2).1 _ _ z1).trans q5; have m6 : w2.cell? ⟨w.heap.size + 1, 6, none⟩ = some (.int .i64 mo) := ((bcell A2).1 _ _ z1).trans q6; have m7 : w2.cell? ⟨w.heap.size + 1, 7, none⟩ = some (.string pt) := ((bcell A2).1 _ _ z1).trans q7; have m8 : w2.cell? ⟨w.heap.size + 1, 8, none⟩ = some (.int .i64 un) := ((bcell A2).1 _ _ z1).trans q8; have m9 : w2.cell? ⟨w.heap.size + 1, 9, none⟩ = some (.int .i64 ma) := ((bcell A2).1 _ _ z1).trans q9))
          have B2 : Hid (Below w.heap.size w w2) := HB.out.trans (A2.mono HB.out.size)
          all_goals go_wp2
          all_goals go_ret
          all_goals exact ⟨ret_bool HQ.out.symm, B2.out⟩
        | true =>
          cases h4 : (na2.toList == na.toList) with
          | false =>
            have HQ : Hid (R = false) := by show _ = _; rw [HE.out]; simp only [*]; try rfl
            go_enter Tryd.func117, Tryd.ntmps117
            go_wp2_with fail
            rw [← hW0.out]
            go_region_held3 (fun w' => w'.cell? ⟨w.heap.size, 0, none⟩ = some (.string ho2) ∧ w'.cell? ⟨w.heap.size, 1, none⟩ = some (.bool al2) ∧ w'.cell? ⟨w.heap.size, 2, none⟩ = some (.string pa2) ∧ w'.cell? ⟨w.heap.size, 3, none⟩ = some (.string pt2) ∧ w'.cell? ⟨w.heap.size, 4, none⟩ = some (.string na2) ∧ w'.cell? ⟨w.heap.size + 1, 0, none⟩ = some (.string na) ∧ w'.cell? ⟨w.heap.size + 1, 1, none⟩ = some (.string va) ∧ w'.cell? ⟨w.heap.size + 1, 2, none⟩ = some (.string ho) ∧ w'.cell? ⟨w.heap.size + 1, 3, none⟩ = some (.bool al) ∧ w'.cell? ⟨w.heap.size + 1, 4, none⟩ = some (.string pa) ∧ w'.cell? ⟨w.heap.size + 1, 5, none⟩ = some (.bool se) ∧ w'.cell? ⟨w.heap.size + 1, 6, none⟩ = some (.int .i64 mo) ∧ w'.cell? ⟨w.heap.size + 1, 7, none⟩ = some (.string pt) ∧ w'.cell? ⟨w.heap.size + 1, 8, none⟩ = some (.int .i64 un) ∧ w'.cell? ⟨w.heap.size + 1, 9, none⟩ = some (.int .i64 ma)) (go_keep)
              (first | (go_at_call 116; refine (KP.out _).mono ?_; rintro e w2 ⟨rfl, hb2⟩; have A2 : Below W0.heap.size W0 w2 := (Below.drew (Below.refl _ _)).trans hb2; have l0 : w2.cell? ⟨w.heap.size, 0, none⟩ = some (.string ho2) := ((bcell A2).1 _ _ z0).trans p0; have l1 : w2.cell? ⟨w.heap.size, 1, none⟩ = some (.bool al2) := ((bcell A2).1 _ _ z0).trans p1; have l2 : w2.cell? ⟨w.heap.size, 2, none⟩ = some (.string pa2) := ((bcell A2).1 _ _ z0).trans p2; have l3 : w2.cell? ⟨w.heap.size, 3, none⟩ = some (.string pt2) := ((bcell A2).1 _ _ z0).trans p3; have l4 : w2.cell? ⟨w.heap.size, 4, none⟩ = some (.string na2) := ((bcell A2).1 _ _ z0).trans p4; have m0 : w2.cell? ⟨w.heap.size + 1, 0, none⟩ = some (.string na) := ((bcell A2).1 _ _ z1).trans q0; have m1 : w2.cell? ⟨w.heap.size + 1, 1, none⟩ = some (.string va) := ((bcell A2).1 _ _ z1).trans q1; have m2 : w2.cell? ⟨w.heap.size + 1, 2, none⟩ = some (.string ho) := ((bcell A2).1 _ _ z1).trans q2; have m3 : w2.cell? ⟨w.heap.size + 1, 3, none⟩ = some (.bool al) := ((bcell A2).1 _ _ z1).trans q3; have m4 : w2.cell? ⟨w.heap.size + 1, 4, none⟩ = some (.string pa) := ((bcell A2).1 _ _ z1).trans q4; have m5 : w2.cell? ⟨w.heap.size + 1, 5, none⟩ = some (.bool se) := ((bcell A2).1 _ _ z1).trans q5; have m6 : w2.cell? ⟨w.heap.size + 1, 6, none⟩ = some (.int .i64 mo) := ((bcell A2).1 _ _ z1).trans q6; have m7 : w2.cell? ⟨w.heap.size + 1, 7, none⟩ = some (.string pt) := ((bcell A2).1 _ _ z1).trans q7; have m8 : w2.cell? ⟨w.heap.size + 1, 8, none⟩ = some (.int .i64 un) := ((bcell A2).1 _ _ z1).trans q8; have m9 : w2.cell? ⟨w.heap.size + 1, 9, none⟩ = some (.int .i64 ma) := ((bcell A2).1 _ _ z1).trans q9))
            have B2 : Hid (Below w.heap.size w w2) := HB.out.trans (A2.mono HB.out.size)
            all_goals go_wp2
            all_goals go_ret
            all_goals exact ⟨ret_bool HQ.out.symm, B2.out⟩
          | true =>
            have HQ : Hid (R = true) := by show _ = _; rw [HE.out]; simp only [*]; try rfl
            go_enter Tryd.func117, Tryd.ntmps117
            go_wp2_with fail
            rw [← hW0.out]
            go_region_held3 (fun w' => w'.cell? ⟨w.heap.size, 0, none⟩ = some (.string ho2) ∧ w'.cell? ⟨w.heap.size, 1, none⟩ = some (.bool al2) ∧ w'.cell? ⟨w.heap.size, 2, none⟩ = some (.string pa2) ∧ w'.cell? ⟨w.heap.size, 3, none⟩ = some (.string pt2) ∧ w'.cell? ⟨w.heap.size, 4, none⟩ = some (.string na2) ∧ w'.cell? ⟨w.heap.size + 1, 0, none⟩ = some (.string na) ∧ w'.cell? ⟨w.heap.size + 1, 1, none⟩ = some (.string va) ∧ w'.cell? ⟨w.heap.size + 1, 2, none⟩ = some (.string ho) ∧ w'.cell? ⟨w.heap.size + 1, 3, none⟩ = some (.bool al) ∧ w'.cell? ⟨w.heap.size + 1, 4, none⟩ = some (.string pa) ∧ w'.cell? ⟨w.heap.size + 1, 5, none⟩ = some (.bool se) ∧ w'.cell? ⟨w.heap.size + 1, 6, none⟩ = some (.int .i64 mo) ∧ w'.cell? ⟨w.heap.size + 1, 7, none⟩ = some (.string pt) ∧ w'.cell? ⟨w.heap.size + 1, 8, none⟩ = some (.int .i64 un) ∧ w'.cell? ⟨w.heap.size + 1, 9, none⟩ = some (.int .i64 ma)) (go_keep)
              (first | (go_at_call 116; refine (KP.out _).mono ?_; rintro e w2 ⟨rfl, hb2⟩; have A2 : Below W0.heap.size W0 w2 := (Below.drew (Below.refl _ _)).trans hb2; have l0 : w2.cell? ⟨w.heap.size, 0, none⟩ = some (.string ho2) := ((bcell A2).1 _ _ z0).trans p0; have l1 : w2.cell? ⟨w.heap.size, 1, none⟩ = some (.bool al2) := ((bcell A2).1 _ _ z0).trans p1; have l2 : w2.cell? ⟨w.heap.size, 2, none⟩ = some (.string pa2) := ((bcell A2).1 _ _ z0).trans p2; have l3 : w2.cell? ⟨w.heap.size, 3, none⟩ = some (.string pt2) := ((bcell A2).1 _ _ z0).trans p3; have l4 : w2.cell? ⟨w.heap.size, 4, none⟩ = some (.string na2) := ((bcell A2).1 _ _ z0).trans p4; have m0 : w2.cell? ⟨w.heap.size + 1, 0, none⟩ = some (.string na) := ((bcell A2).1 _ _ z1).trans q0; have m1 : w2.cell? ⟨w.heap.size + 1, 1, none⟩ = some (.string va) := ((bcell A2).1 _ _ z1).trans q1; have m2 : w2.cell? ⟨w.heap.size + 1, 2, none⟩ = some (.string ho) := ((bcell A2).1 _ _ z1).trans q2; have m3 : w2.cell? ⟨w.heap.size + 1, 3, none⟩ = some (.bool al) := ((bcell A2).1 _ _ z1).trans q3; have m4 : w2.cell? ⟨w.heap.size + 1, 4, none⟩ = some (.string pa) := ((bcell A2).1 _ _ z1).trans q4; have m5 : w2.cell? ⟨w.heap.size + 1, 5, none⟩ = some (.bool se) := ((bcell A2).1 _ _ z1).trans q5; have m6 : w2.cell? ⟨w.heap.size + 1, 6, none⟩ = some (.int .i64 mo) := ((bcell A2).1 _ _ z1).trans q6; have m7 : w2.cell? ⟨w.heap.size + 1, 7, none⟩ = some (.string pt) := ((bcell A2).1 _ _ z1).trans q7; have m8 : w2.cell? ⟨w.heap.size + 1, 8, none⟩ = some (.int .i64 un) := ((bcell A2).1 _ _ z1).trans q8; have m9 : w2.cell? ⟨w.heap.size + 1, 9, none⟩ = some (.int .i64 ma) := ((bcell A2).1 _ _ z1).trans q9))
            have B2 : Hid (Below w.heap.size w w2) := HB.out.trans (A2.mono HB.out.size)
            all_goals go_wp2
            all_goals go_ret
            all_goals exact ⟨ret_bool HQ.out.symm, B2.out⟩

/-- one of the first k is of this place -/
def hasK (L : List Ck) (k : Nat) (a : Ck) : Bool := !decide (∀ j, j < k → sameK (atC L j) a = false)
theorem hasK_yes {L : List Ck} {k : Nat} {a : Ck} (j : Nat) (hj : j < k) (h : sameK a (atC L j) = true) : hasK L k a = true := by
  unfold hasK
  rw [decide_eq_false (fun h' => by rw [sameK_comm, h' j hj] at h; cases h)]; rfl
theorem hasK_no {L : List Ck} {k : Nat} {a : Ck} (h : ∀ j, j < k → sameK a (atC L j) = false) : hasK L k a = false := by
  unfold hasK
  rw [decide_eq_true (fun j hj => by rw [sameK_comm]; exact h j hj)]; rfl
set_option maxRecDepth 10000 in
set_option maxHeartbeats 4000000 in
theorem containsHas_any (g k : Nat) (L : List Ck) (a : Ck) (w : World) (hg : g < w.heap.size) (hk : k ≤ L.length) (hn : L.length ≤ 1048576) (hc : ∀ j, j < k → ∀ o, o < 10 → w.cell? ⟨g, j * 10 + o, none⟩ = some (ckC (atC L j) o)) :
    Calls Tryd.prog 115 #[.slice (some ⟨g, 0, none⟩) k k, .func (.func 117) #[placeV a] #[]] w fun e w' => e = .returned (.bool (hasK L k a)) ∧ Below w.heap.size w w' := by
  have KI : Hid (Calls Tryd.prog 151 #[.slice (some ⟨g, 0, none⟩) k k, .func (.func 117) #[placeV a] #[]] w fun e w' => (∃ r : Int, e = .returned (.int .i64 r) ∧ decide (0 ≤ r) = hasK L k a) ∧ Below w.heap.size w w') := by
    show Calls _ _ _ _ _
    have KH : Hid (∀ j W, Calls Tryd.prog 117 #[placeV a, ckV (atC L j)] W fun e w' => e = .returned (.bool (sameK a (atC L j))) ∧ Below W.heap.size W w') := fun j W => has_any a (atC L j) W
    have HY : Hid (∀ j, j < k → sameK a (atC L j) = true → hasK L k a = true) := fun j a b => hasK_yes j a b
    have HN : Hid ((∀ j, j < k → sameK a (atC L j) = false) → hasK L k a = false) := fun h => hasK_no h
    have HC : Hid (∀ j, j < k → ∀ o, o < 10 → w.cell? ⟨g, j * 10 + o, none⟩ = some (ckC (atC L j) o)) := hc
    clear hc
    generalize hasK L k a = R at *
    go_enter Tryd.func151, Tryd.ntmps151
    go_wp2
    go_loopw [8] (fun i wr => ∃ j : Nat, j ≤ k ∧ i = .int .i64 j ∧ Hid (Below w.heap.size w wr) ∧ Hid (∀ i', i' < j → sameK a (atC L i') = false)) (fun i _ => k - (intOf i).toNat)
    case atStart => exact ⟨0, Nat.zero_le _, rfl, Below.refl _ _, fun j hj => absurd hj (by omega)⟩
    case round =>
      obtain ⟨j, hj, rfl, HB, HR⟩ := hrel
      by_cases hlt : j < k
      · have KH0 := KH.out j
        have j0 : (0 : Int) ≤ j := by omega
        have j1 : (j : Int) < k := by omega
        have HY1 : Hid (sameK a (atC L j) = true → R = true) := HY.out j hlt
        have HN1 : Hid (sameK a (atC L j) = false → ∀ i', i' < j + 1 → sameK a (atC L i') = false) := fun e i' hi' => by
          by_cases e2 : i' = j
          · subst e2; exact e
          · exact HR.out i' (by omega)
        have c0 : wr.cell? ⟨g, j * 10, none⟩ = some (.string (atC L j).na) := by rw [(bcell HB.out).1 _ _ hg]; exact HC.out j hlt 0 (by omega)
        have c1 : wr.cell? ⟨g, j * 10 + 1, none⟩ = some (.string (atC L j).va) := by rw [(bcell HB.out).1 _ _ hg]; exact HC.out j hlt 1 (by omega)
        have c2 : wr.cell? ⟨g, j * 10 + 2, none⟩ = some (.string (atC L j).ho) := by rw [(bcell HB.out).1 _ _ hg]; exact HC.out j hlt 2 (by omega)
        have c3 : wr.cell? ⟨g, j * 10 + 3, none⟩ = some (.bool (atC L j).al) := by rw [(bcell HB.out).1 _ _ hg]; exact HC.out j hlt 3 (by omega)
        have c4 : wr.cell? ⟨g, j * 10 + 4, none⟩ = some (.string (atC L j).pa) := by rw [(bcell HB.out).1 _ _ hg]; exact HC.out j hlt 4 (by omega)
        have c5 : wr.cell? ⟨g, j * 10 + 5, none⟩ = some (.bool (atC L j).se) := by rw [(bcell HB.out).1 _ _ hg]; exact HC.out j hlt 5 (by omega)
        have c6 : wr.cell? ⟨g, j * 10 + 6, none⟩ = some (.int .i64 (atC L j).mo) := by rw [(bcell HB.out).1 _ _ hg]; exact HC.out j hlt 6 (by omega)
        have c7 : wr.cell? ⟨g, j * 10 + 7, none⟩ = some (.string (atC L j).pt) := by rw [(bcell HB.out).1 _ _ hg]; exact HC.out j hlt 7 (by omega)
        have c8 : wr.cell? ⟨g, j * 10 + 8, none⟩ = some (.int .i64 (atC L j).un) := by rw [(bcell HB.out).1 _ _ hg]; exact HC.out j hlt 8 (by omega)
        have c9 : wr.cell? ⟨g, j * 10 + 9, none⟩ = some (.int .i64 (atC L j).ma) := by rw [(bcell HB.out).1 _ _ hg]; exact HC.out j hlt 9 (by omega)
        generalize hsm : sameK a (atC L j) = sm at *
        clear hsm
        generalize atC L j = y at *
        obtain ⟨na, va, ho, al, pa, se, mo, pt, un, ma⟩ := y
        unfold ckV at KH0
        dsimp only at *
        have KC : Hid (∀ W, Calls Tryd.prog 117 #[placeV a, .agg #[.string na, .string va, .string ho, .bool al, .string pa, .bool se, .int .i64 mo, .string pt, .int .i64 un, .int .i64 ma]] W fun e w' => e = .returned (.bool sm) ∧ Below W.heap.size W w') := KH0
        clear KH0
        generalize placeV a = pv at *
        go_wp2_with fail
        refine (KC.out _).mono ?_
        rintro e w2 ⟨rfl, hb2⟩
        have B2 : Hid (Below w.heap.size w w2) := HB.out.trans (hb2.mono HB.out.size)
        clear hb2
        cases sm with
        | true =>
          have HQ : Hid (R = true) := HY1.out rfl
          go_wp2
          go_ret
          exact ⟨⟨_, rfl, by rw [HQ.out, decide_eq_true_iff]; omega⟩, B2.out⟩
        | false =>
          have HN2 : Hid (∀ i', i' < j + 1 → sameK a (atC L i') = false) := HN1.out rfl
          go_wp2
          go_roundw
          case rel => exact ⟨j + 1, by omega, by go_num, B2, HN2⟩
          case measure => simp [intOf]; omega
      · have HQ : Hid (R = false) := HN.out (fun i hi => HR.out i (by omega))
        go_wp2
        go_ret
        exact ⟨⟨_, rfl, by rw [HQ.out]; decide⟩, HB.out⟩
  generalize hasK L k a = R at *
  generalize placeV a = pv at *
  go_enter Tryd.func115, Tryd.ntmps115
  go_wp2_with fail
  refine KI.out.mono ?_
  rintro e w2 ⟨⟨r, rfl, hr⟩, hb2⟩
  have HQ : Hid (decide (0 ≤ r) = R) := hr
  clear hr
  go_wp2
  go_ret
  exact ⟨ret_bool HQ.out, hb2⟩
end Go.Proofs.YtfoekelhcmlagaaDoor

/- The walks of the program's isSmall, isDigit, inWord and WordRight. Written by implword.py. -/
namespace Go.Proofs.YtfoekelhcmlagaaDoor
open Go.RowKit

def betw (n lo hi : Nat) : Bool := decide (lo ≤ n ∧ n ≤ hi)
theorem betw_yes {n lo hi : Nat} (h1 : lo ≤ n) (h2 : n ≤ hi) : betw n lo hi = true := by unfold betw; rw [decide_eq_true_iff]; exact ⟨h1, h2⟩
theorem betw_no {n lo hi : Nat} (h : ¬ (lo ≤ n ∧ n ≤ hi)) : betw n lo hi = false := by unfold betw; rw [decide_eq_false_iff_not]; exact h
set_option maxRecDepth 10000 in
theorem isSmallW_any (n : Nat) (w : World) : Calls Tryd.prog 208 #[.int .u8 (n : Int)] w fun e w' => e = .returned (.bool (betw n 97 122)) ∧ w' = w := by
  rcases (show (n < 97) ∨ (97 ≤ n ∧ n ≤ 122) ∨ (122 < n) by omega) with c1 | ⟨c1, c2⟩ | c1
  · have b1 : decide ((97 : Int) ≤ (n : Int)) = false := by rw [decide_eq_false_iff_not]; omega
    go_enter Tryd.func208, Tryd.ntmps208
    go_wp2
    go_ret
    exact ⟨ret_bool (betw_no (by omega)).symm, rfl⟩
  · go_enter Tryd.func208, Tryd.ntmps208
    go_wp2
    go_ret
    exact ⟨ret_bool (by rw [betw_yes c1 c2, decide_eq_true_iff]; omega), rfl⟩
  · have b1 : decide ((n : Int) ≤ 122) = false := by rw [decide_eq_false_iff_not]; omega
    go_enter Tryd.func208, Tryd.ntmps208
    go_wp2
    go_ret
    exact ⟨ret_bool (betw_no (by omega)).symm, rfl⟩
set_option maxRecDepth 10000 in
theorem isDigitW_any (n : Nat) (w : World) : Calls Tryd.prog 209 #[.int .u8 (n : Int)] w fun e w' => e = .returned (.bool (betw n 48 57)) ∧ w' = w := by
  rcases (show (n < 48) ∨ (48 ≤ n ∧ n ≤ 57) ∨ (57 < n) by omega) with c1 | ⟨c1, c2⟩ | c1
  · have b1 : decide ((48 : Int) ≤ (n : Int)) = false := by rw [decide_eq_false_iff_not]; omega
    go_enter Tryd.func209, Tryd.ntmps209
    go_wp2
    go_ret
    exact ⟨ret_bool (betw_no (by omega)).symm, rfl⟩
  · go_enter Tryd.func209, Tryd.ntmps209
    go_wp2
    go_ret
    exact ⟨ret_bool (by rw [betw_yes c1 c2, decide_eq_true_iff]; omega), rfl⟩
  · have b1 : decide ((n : Int) ≤ 57) = false := by rw [decide_eq_false_iff_not]; omega
    go_enter Tryd.func209, Tryd.ntmps209
    go_wp2
    go_ret
    exact ⟨ret_bool (betw_no (by omega)).symm, rfl⟩
set_option maxRecDepth 10000 in
set_option maxHeartbeats 2000000 in
theorem inWord_any (n : Nat) (w : World) : Calls Tryd.prog 185 #[.int .u8 (n : Int)] w fun e w' => e = .returned (.bool (wordC n)) ∧ w' = w := by
  have K1 : Hid (∀ W, Calls Tryd.prog 208 #[.int .u8 (n : Int)] W fun e w' => e = .returned (.bool (betw n 97 122)) ∧ w' = W) := fun W => isSmallW_any n W
  have K2 : Hid (∀ W, Calls Tryd.prog 209 #[.int .u8 (n : Int)] W fun e w' => e = .returned (.bool (betw n 48 57)) ∧ w' = W) := fun W => isDigitW_any n W
  rcases (show (n ≤ 44) ∨ (45 ≤ n ∧ n ≤ 45) ∨ (46 ≤ n ∧ n ≤ 46) ∨ (47 ≤ n ∧ n ≤ 47) ∨ (48 ≤ n ∧ n ≤ 57) ∨ (58 ≤ n ∧ n ≤ 64) ∨ (65 ≤ n ∧ n ≤ 90) ∨ (91 ≤ n ∧ n ≤ 94) ∨ (95 ≤ n ∧ n ≤ 95) ∨ (96 ≤ n ∧ n ≤ 96) ∨ (97 ≤ n ∧ n ≤ 122) ∨ (123 ≤ n) by omega)
    with c1 | ⟨c1, c2⟩ | ⟨c1, c2⟩ | ⟨c1, c2⟩ | ⟨c1, c2⟩ | ⟨c1, c2⟩ | ⟨c1, c2⟩ | ⟨c1, c2⟩ | ⟨c1, c2⟩ | ⟨c1, c2⟩ | ⟨c1, c2⟩ | c1
  · have HW : Hid (wordC n = false) := wordC_no (by omega)
    rw [betw_no (by omega)] at K1
    rw [betw_no (by omega)] at K2
    have b1 : decide ((65 : Int) ≤ (n : Int)) = false := by rw [decide_eq_false_iff_not]; omega
    have b2 : decide ((n : Int) ≤ 90) = true := by rw [decide_eq_true_iff]; omega
    have b3 : ((n : Int) == 95) = false := by rw [beq_eq_false_iff_ne]; omega
    have b4 : ((n : Int) == 45) = false := by rw [beq_eq_false_iff_ne]; omega
    have b5 : ((n : Int) == 46) = false := by rw [beq_eq_false_iff_ne]; omega
    go_enter Tryd.func185, Tryd.ntmps185
    go_wp2_with (first | (go_at_call 208; refine (K1.out _).mono ?_; rintro e w1 ⟨rfl, rfl⟩) | (go_at_call 209; refine (K2.out _).mono ?_; rintro e w2 ⟨rfl, rfl⟩))
    go_ret
    exact ⟨ret_bool HW.out.symm, rfl⟩
  · have HW : Hid (wordC n = true) := wordC_yes (by omega)
    rw [betw_no (by omega)] at K1
    rw [betw_no (by omega)] at K2
    have b1 : decide ((65 : Int) ≤ (n : Int)) = false := by rw [decide_eq_false_iff_not]; omega
    have b2 : decide ((n : Int) ≤ 90) = true := by rw [decide_eq_true_iff]; omega
    have b3 : ((n : Int) == 95) = false := by rw [beq_eq_false_iff_ne]; omega
    have b4 : ((n : Int) == 45) = true := by rw [beq_iff_eq]; omega
    have b5 : ((n : Int) == 46) = false := by rw [beq_eq_false_iff_ne]; omega
    go_enter Tryd.func185, Tryd.ntmps185
    go_wp2_with (first | (go_at_call 208; refine (K1.out _).mono ?_; rintro e w1 ⟨rfl, rfl⟩) | (go_at_call 209; refine (K2.out _).mono ?_; rintro e w2 ⟨rfl, rfl⟩))
    go_ret
    exact ⟨ret_bool HW.out.symm, rfl⟩
  · have HW : Hid (wordC n = true) := wordC_yes (by omega)
    rw [betw_no (by omega)] at K1
    rw [betw_no (by omega)] at K2
    have b1 : decide ((65 : Int) ≤ (n : Int)) = false := by rw [decide_eq_false_iff_not]; omega
    have b2 : decide ((n : Int) ≤ 90) = true := by rw [decide_eq_true_iff]; omega
    have b3 : ((n : Int) == 95) = false := by rw [beq_eq_false_iff_ne]; omega
    have b4 : ((n : Int) == 45) = false := by rw [beq_eq_false_iff_ne]; omega
    have b5 : ((n : Int) == 46) = true := by rw [beq_iff_eq]; omega
    go_enter Tryd.func185, Tryd.ntmps185
    go_wp2_with (first | (go_at_call 208; refine (K1.out _).mono ?_; rintro e w1 ⟨rfl, rfl⟩) | (go_at_call 209; refine (K2.out _).mono ?_; rintro e w2 ⟨rfl, rfl⟩))
    go_ret
    exact ⟨ret_bool HW.out.symm, rfl⟩
  · have HW : Hid (wordC n = false) := wordC_no (by omega)
    rw [betw_no (by omega)] at K1
    rw [betw_no (by omega)] at K2
    have b1 : decide ((65 : Int) ≤ (n : Int)) = false := by rw [decide_eq_false_iff_not]; omega
    have b2 : decide ((n : Int) ≤ 90) = true := by rw [decide_eq_true_iff]; omega
    have b3 : ((n : Int) == 95) = false := by rw [beq_eq_false_iff_ne]; omega
    have b4 : ((n : Int) == 45) = false := by rw [beq_eq_false_iff_ne]; omega
    have b5 : ((n : Int) == 46) = false := by rw [beq_eq_false_iff_ne]; omega
    go_enter Tryd.func185, Tryd.ntmps185
    go_wp2_with (first | (go_at_call 208; refine (K1.out _).mono ?_; rintro e w1 ⟨rfl, rfl⟩) | (go_at_call 209; refine (K2.out _).mono ?_; rintro e w2 ⟨rfl, rfl⟩))
    go_ret
    exact ⟨ret_bool HW.out.symm, rfl⟩
  · have HW : Hid (wordC n = true) := wordC_yes (by omega)
    rw [betw_no (by omega)] at K1
    rw [betw_yes (by omega) (by omega)] at K2
    have b1 : decide ((65 : Int) ≤ (n : Int)) = false := by rw [decide_eq_false_iff_not]; omega
    have b2 : decide ((n : Int) ≤ 90) = true := by rw [decide_eq_true_iff]; omega
    have b3 : ((n : Int) == 95) = false := by rw [beq_eq_false_iff_ne]; omega
    have b4 : ((n : Int) == 45) = false := by rw [beq_eq_false_iff_ne]; omega
    have b5 : ((n : Int) == 46) = false := by rw [beq_eq_false_iff_ne]; omega
    go_enter Tryd.func185, Tryd.ntmps185
    go_wp2_with (first | (go_at_call 208; refine (K1.out _).mono ?_; rintro e w1 ⟨rfl, rfl⟩) | (go_at_call 209; refine (K2.out _).mono ?_; rintro e w2 ⟨rfl, rfl⟩))
    go_ret
    exact ⟨ret_bool HW.out.symm, rfl⟩
  · have HW : Hid (wordC n = false) := wordC_no (by omega)
    rw [betw_no (by omega)] at K1
    rw [betw_no (by omega)] at K2
    have b1 : decide ((65 : Int) ≤ (n : Int)) = false := by rw [decide_eq_false_iff_not]; omega
    have b2 : decide ((n : Int) ≤ 90) = true := by rw [decide_eq_true_iff]; omega
    have b3 : ((n : Int) == 95) = false := by rw [beq_eq_false_iff_ne]; omega
    have b4 : ((n : Int) == 45) = false := by rw [beq_eq_false_iff_ne]; omega
    have b5 : ((n : Int) == 46) = false := by rw [beq_eq_false_iff_ne]; omega
    go_enter Tryd.func185, Tryd.ntmps185
    go_wp2_with (first | (go_at_call 208; refine (K1.out _).mono ?_; rintro e w1 ⟨rfl, rfl⟩) | (go_at_call 209; refine (K2.out _).mono ?_; rintro e w2 ⟨rfl, rfl⟩))
    go_ret
    exact ⟨ret_bool HW.out.symm, rfl⟩
  · have HW : Hid (wordC n = true) := wordC_yes (by omega)
    rw [betw_no (by omega)] at K1
    rw [betw_no (by omega)] at K2
    have b1 : decide ((65 : Int) ≤ (n : Int)) = true := by rw [decide_eq_true_iff]; omega
    have b2 : decide ((n : Int) ≤ 90) = true := by rw [decide_eq_true_iff]; omega
    have b3 : ((n : Int) == 95) = false := by rw [beq_eq_false_iff_ne]; omega
    have b4 : ((n : Int) == 45) = false := by rw [beq_eq_false_iff_ne]; omega
    have b5 : ((n : Int) == 46) = false := by rw [beq_eq_false_iff_ne]; omega
    go_enter Tryd.func185, Tryd.ntmps185
    go_wp2_with (first | (go_at_call 208; refine (K1.out _).mono ?_; rintro e w1 ⟨rfl, rfl⟩) | (go_at_call 209; refine (K2.out _).mono ?_; rintro e w2 ⟨rfl, rfl⟩))
    go_ret
    exact ⟨ret_bool HW.out.symm, rfl⟩
  · have HW : Hid (wordC n = false) := wordC_no (by omega)
    rw [betw_no (by omega)] at K1
    rw [betw_no (by omega)] at K2
    have b1 : decide ((65 : Int) ≤ (n : Int)) = true := by rw [decide_eq_true_iff]; omega
    have b2 : decide ((n : Int) ≤ 90) = false := by rw [decide_eq_false_iff_not]; omega
    have b3 : ((n : Int) == 95) = false := by rw [beq_eq_false_iff_ne]; omega
    have b4 : ((n : Int) == 45) = false := by rw [beq_eq_false_iff_ne]; omega
    have b5 : ((n : Int) == 46) = false := by rw [beq_eq_false_iff_ne]; omega
    go_enter Tryd.func185, Tryd.ntmps185
    go_wp2_with (first | (go_at_call 208; refine (K1.out _).mono ?_; rintro e w1 ⟨rfl, rfl⟩) | (go_at_call 209; refine (K2.out _).mono ?_; rintro e w2 ⟨rfl, rfl⟩))
    go_ret
    exact ⟨ret_bool HW.out.symm, rfl⟩
  · have HW : Hid (wordC n = true) := wordC_yes (by omega)
    rw [betw_no (by omega)] at K1
    rw [betw_no (by omega)] at K2
    have b1 : decide ((65 : Int) ≤ (n : Int)) = true := by rw [decide_eq_true_iff]; omega
    have b2 : decide ((n : Int) ≤ 90) = false := by rw [decide_eq_false_iff_not]; omega
    have b3 : ((n : Int) == 95) = true := by rw [beq_iff_eq]; omega
    have b4 : ((n : Int) == 45) = false := by rw [beq_eq_false_iff_ne]; omega
    have b5 : ((n : Int) == 46) = false := by rw [beq_eq_false_iff_ne]; omega
    go_enter Tryd.func185, Tryd.ntmps185
    go_wp2_with (first | (go_at_call 208; refine (K1.out _).mono ?_; rintro e w1 ⟨rfl, rfl⟩) | (go_at_call 209; refine (K2.out _).mono ?_; rintro e w2 ⟨rfl, rfl⟩))
    go_ret
    exact ⟨ret_bool HW.out.symm, rfl⟩
  · have HW : Hid (wordC n = false) := wordC_no (by omega)
    rw [betw_no (by omega)] at K1
    rw [betw_no (by omega)] at K2
    have b1 : decide ((65 : Int) ≤ (n : Int)) = true := by rw [decide_eq_true_iff]; omega
    have b2 : decide ((n : Int) ≤ 90) = false := by rw [decide_eq_false_iff_not]; omega
    have b3 : ((n : Int) == 95) = false := by rw [beq_eq_false_iff_ne]; omega
    have b4 : ((n : Int) == 45) = false := by rw [beq_eq_false_iff_ne]; omega
    have b5 : ((n : Int) == 46) = false := by rw [beq_eq_false_iff_ne]; omega
    go_enter Tryd.func185, Tryd.ntmps185
    go_wp2_with (first | (go_at_call 208; refine (K1.out _).mono ?_; rintro e w1 ⟨rfl, rfl⟩) | (go_at_call 209; refine (K2.out _).mono ?_; rintro e w2 ⟨rfl, rfl⟩))
    go_ret
    exact ⟨ret_bool HW.out.symm, rfl⟩
  · have HW : Hid (wordC n = true) := wordC_yes (by omega)
    rw [betw_yes (by omega) (by omega)] at K1
    rw [betw_no (by omega)] at K2
    have b1 : decide ((65 : Int) ≤ (n : Int)) = true := by rw [decide_eq_true_iff]; omega
    have b2 : decide ((n : Int) ≤ 90) = false := by rw [decide_eq_false_iff_not]; omega
    have b3 : ((n : Int) == 95) = false := by rw [beq_eq_false_iff_ne]; omega
    have b4 : ((n : Int) == 45) = false := by rw [beq_eq_false_iff_ne]; omega
    have b5 : ((n : Int) == 46) = false := by rw [beq_eq_false_iff_ne]; omega
    go_enter Tryd.func185, Tryd.ntmps185
    go_wp2_with (first | (go_at_call 208; refine (K1.out _).mono ?_; rintro e w1 ⟨rfl, rfl⟩) | (go_at_call 209; refine (K2.out _).mono ?_; rintro e w2 ⟨rfl, rfl⟩))
    go_ret
    exact ⟨ret_bool HW.out.symm, rfl⟩
  · have HW : Hid (wordC n = false) := wordC_no (by omega)
    rw [betw_no (by omega)] at K1
    rw [betw_no (by omega)] at K2
    have b1 : decide ((65 : Int) ≤ (n : Int)) = true := by rw [decide_eq_true_iff]; omega
    have b2 : decide ((n : Int) ≤ 90) = false := by rw [decide_eq_false_iff_not]; omega
    have b3 : ((n : Int) == 95) = false := by rw [beq_eq_false_iff_ne]; omega
    have b4 : ((n : Int) == 45) = false := by rw [beq_eq_false_iff_ne]; omega
    have b5 : ((n : Int) == 46) = false := by rw [beq_eq_false_iff_ne]; omega
    go_enter Tryd.func185, Tryd.ntmps185
    go_wp2_with (first | (go_at_call 208; refine (K1.out _).mono ?_; rintro e w1 ⟨rfl, rfl⟩) | (go_at_call 209; refine (K2.out _).mono ?_; rintro e w2 ⟨rfl, rfl⟩))
    go_ret
    exact ⟨ret_bool HW.out.symm, rfl⟩

theorem wordB_long {t : ByteArray} (h : 20 < t.size) : wordB t = false := by unfold wordB; rw [decide_eq_false (show ¬ t.size ≤ 20 by omega), Bool.and_false]
set_option maxRecDepth 10000 in
set_option maxHeartbeats 2000000 in
theorem wordRight_any (t : ByteArray) (w : World) :
    Calls Tryd.prog 150 #[.string t] w fun e w' => e = .returned (.bool (wordB t)) ∧ w' = w := by
  by_cases h20 : 20 < t.size
  · have HR : Hid (wordB t = false) := wordB_long h20
    go_enter Tryd.func150, Tryd.ntmps150
    go_wp2
    go_ret
    exact ⟨ret_bool HR.out.symm, rfl⟩
  have HA : Hid ((∀ k (h : k < t.size), wordC t[k].toNat = false → wordB t = false) ∧ ((∀ i (h : i < t.size), wordC t[i].toNat = true) → wordB t = true)) := ⟨fun k h hk => wordB_at k h hk, fun h => by rw [wordB_all h, decide_eq_true_iff]; omega⟩
  generalize wordB t = R at *
  have q20 : decide ((20 : Int) < (t.size : Int)) = false := by rw [decide_eq_false_iff_not]; omega
  go_enter Tryd.func150, Tryd.ntmps150
  go_wp2
  go_loop [9] (fun i => ∃ k : Nat, k ≤ t.size ∧ i = .int .i64 k ∧ Hid (∀ i (h : i < t.size), i < k → wordC t[i].toNat = true)) (fun i => t.size - (intOf i).toNat)
  case atStart => exact ⟨0, Nat.zero_le _, rfl, fun i _ hi => absurd hi (by omega)⟩
  case round =>
    obtain ⟨k, hk, rfl, HR⟩ := hrel
    by_cases hlt : k < t.size
    · have k0 : (0 : Int) ≤ k := by omega
      have k1 : (k : Int) < t.size := by omega
      have KW : Hid (∀ W, Calls Tryd.prog 185 #[.int .u8 (t[k].toNat : Int)] W fun e w' => e = .returned (.bool (wordC t[k].toNat)) ∧ w' = W) := fun W => inWord_any _ W
      cases hc : wordC t[k].toNat with
      | true =>
        rw [hc] at KW
        have HN : Hid (∀ i (h : i < t.size), i < k + 1 → wordC t[i].toNat = true) := fun i h hi => by
          by_cases e : i = k
          · subst e; exact hc
          · exact HR.out i h (by omega)
        clear hc
        go_wp2_with (go_at_call 185; refine (KW.out _).mono ?_; rintro e w1 ⟨rfl, rfl⟩)
        go_round
        case rel => exact ⟨k + 1, by omega, by go_num, HN⟩
        case measure => simp [intOf]; omega
      | false =>
        rw [hc] at KW
        have HQ : Hid (R = false) := HA.out.1 k hlt hc
        clear hc
        go_wp2_with (go_at_call 185; refine (KW.out _).mono ?_; rintro e w1 ⟨rfl, rfl⟩)
        go_ret
        exact ⟨ret_bool HQ.out.symm, rfl⟩
    · go_wp2
      go_ret
      exact ⟨ret_bool (HA.out.2 (fun i h => HR.out i h (by omega))).symm, rfl⟩
end Go.Proofs.YtfoekelhcmlagaaDoor

/- The walk of the specification's l04PairRight. -/
namespace Go.Proofs.YtfoekelhcmlagaaDoor
open Go.RowKit

def pairV (na va : ByteArray) : Value := .agg #[.string na, .string va]
def pairB (na va : ByteArray) : Bool := !na.toList.isEmpty && wordB na && wordB va
end Go.Proofs.YtfoekelhcmlagaaDoor

/- The first place of a text in another one, and the number that digits tell, as plain functions. -/
namespace Go.Proofs.YtfoekelhcmlagaaDoor
/-- does x stand in t at place i? -/
def isAt (t x : ByteArray) (i : Nat) : Bool := (t.extract i (i + x.size)).toList == x.toList
/-- the first place of x in t among the first i ones -/
def findTo (t x : ByteArray) : Nat → Option Nat
  | 0 => none
  | i + 1 => match findTo t x i with
    | some k => some k
    | none => if i + x.size ≤ t.size ∧ isAt t x i = true then some i else none
def findN (t x : ByteArray) : Option Nat := findTo t x (t.size + 1)
/-- as the specification tells it: -1 of none -/
def findI (t x : ByteArray) : Int := match findN t x with | some k => (k : Int) | none => -1
theorem findTo_hit {t x : ByteArray} {i : Nat} (h : findTo t x i = none) (h1 : i + x.size ≤ t.size) (h2 : isAt t x i = true) : findTo t x (i + 1) = some i := by
  rw [findTo, h]; simp [h1, h2]
theorem findTo_miss {t x : ByteArray} {i : Nat} (h : findTo t x i = none) (h2 : ¬ (i + x.size ≤ t.size ∧ isAt t x i = true)) : findTo t x (i + 1) = none := by
  rw [findTo, h]; simp only; rw [if_neg h2]
theorem findTo_keep {t x : ByteArray} {i k : Nat} (h : findTo t x i = some k) (j : Nat) : findTo t x (i + j) = some k := by
  induction j with
  | zero => exact h
  | succ j ih => rw [← Nat.add_assoc, findTo, ih]
theorem findTo_after {t x : ByteArray} {i : Nat} (h : findTo t x i = none) (hi : t.size < i + x.size) (j : Nat) : findTo t x (i + j) = none := by
  induction j with
  | zero => exact h
  | succ j ih => rw [← Nat.add_assoc]; exact findTo_miss ih (by omega)
theorem findTo_lt {t x : ByteArray} {i k : Nat} (h : findTo t x i = some k) : k < i ∧ k + x.size ≤ t.size ∧ isAt t x k = true := by
  induction i with
  | zero => cases h
  | succ i ih =>
    rw [findTo] at h
    cases hf : findTo t x i with
    | some m =>
      rw [hf] at h
      obtain rfl : m = k := by simpa using h
      have := ih hf
      exact ⟨by omega, this.2⟩
    | none =>
      rw [hf] at h
      simp only at h
      split at h
      · rename_i hc
        obtain rfl : i = k := by simpa using h
        exact ⟨by omega, hc⟩
      · cases h
theorem findI_hit {t x : ByteArray} {i : Nat} (h : findTo t x i = none) (h1 : i + x.size ≤ t.size) (h2 : isAt t x i = true) : findI t x = i := by
  have h3 := findTo_keep (findTo_hit h h1 h2) (t.size - i)
  unfold findI findN
  rw [show t.size + 1 = i + 1 + (t.size - i) by omega, h3]
theorem findI_none {t x : ByteArray} {i : Nat} (h : findTo t x i = none) (hi : t.size < i + x.size) (hle : i ≤ t.size + 1) : findI t x = -1 := by
  have h3 := findTo_after h hi (t.size + 1 - i)
  unfold findI findN
  rw [show t.size + 1 = i + (t.size + 1 - i) by omega, h3]
/-- the number of the first i bytes as digits -/
def numTo (t : ByteArray) : Nat → Nat
  | 0 => 0
  | i + 1 => if h : i < t.size then 10 * numTo t i + (t[i].toNat - 48) else numTo t i
theorem numTo_succ {t : ByteArray} {i : Nat} (h : i < t.size) : numTo t (i + 1) = 10 * numTo t i + (t[i].toNat - 48) := by rw [numTo, dif_pos h]
theorem numTo_lt (t : ByteArray) (hd : ∀ i (h : i < t.size), 48 ≤ t[i].toNat ∧ t[i].toNat ≤ 57) (i : Nat) : numTo t i < 10 ^ i := by
  induction i with
  | zero => exact (by decide : 0 < 10 ^ 0)
  | succ i ih =>
    rw [numTo, Nat.pow_succ]
    split
    · rename_i h
      have := hd i h
      omega
    · omega
def digC (c : Nat) : Bool := decide (48 ≤ c ∧ c ≤ 57)
/-- digits that are no number of at most nine of them: -1 -/
def numI (t : ByteArray) : Int := if 1 ≤ t.size ∧ t.size ≤ 9 ∧ (1 < t.size → ∀ h : 0 < t.size, ¬ t[0].toNat = 48) ∧ ∀ i (h : i < t.size), digC t[i].toNat = true then (numTo t t.size : Int) else -1
theorem numI_size {t : ByteArray} (h : t.size < 1 ∨ 9 < t.size) : numI t = -1 := by
  unfold numI; rw [if_neg]; rintro ⟨a, b, _⟩; omega
theorem numI_first {t : ByteArray} (h : 1 < t.size) (hc : t[0].toNat = 48) : numI t = -1 := by
  unfold numI; rw [if_neg]; rintro ⟨_, _, a, _⟩; exact a h (by omega) hc
theorem numI_at {t : ByteArray} (k : Nat) (h : k < t.size) (hk : digC t[k].toNat = false) : numI t = -1 := by
  unfold numI; rw [if_neg]; rintro ⟨_, _, _, c⟩; rw [c k h] at hk; cases hk
theorem numI_yes {t : ByteArray} (h1 : 1 ≤ t.size) (h2 : t.size ≤ 9) (h3 : 1 < t.size → ∀ h : 0 < t.size, ¬ t[0].toNat = 48) (h : ∀ i (h : i < t.size), digC t[i].toNat = true) : numI t = numTo t t.size := by
  unfold numI; rw [if_pos ⟨h1, h2, h3, h⟩]
theorem digC_yes {c : Nat} (h : 48 ≤ c ∧ c ≤ 57) : digC c = true := by unfold digC; rw [decide_eq_true_iff]; exact h
theorem digC_no {c : Nat} (h : ¬ (48 ≤ c ∧ c ≤ 57)) : digC c = false := by unfold digC; rw [decide_eq_false_iff_not]; exact h
theorem digC_of {c : Nat} (h : digC c = true) : 48 ≤ c ∧ c ≤ 57 := by unfold digC at h; rwa [decide_eq_true_iff] at h
end Go.Proofs.YtfoekelhcmlagaaDoor

/- The walks of the specification's l02Find (from place 0 on) and l02Num. -/
namespace Go.Proofs.YtfoekelhcmlagaaDoor
open Go.RowKit

set_option maxRecDepth 10000 in
set_option maxHeartbeats 400000 in
theorem specFind_any (t x : ByteArray) (w : World) (ht : t.size ≤ 1048576) (hx : x.size ≤ 1048576) :
    Calls Tryd.prog 88 #[.string t, .int .i64 0, .string x] w fun e w' => e = .returned (.int .i64 (findI t x)) ∧ w' = w := by
  go_enter Tryd.func88, Tryd.ntmps88
  go_wp2
  go_loop [7] (fun i => ∃ k : Nat, k ≤ t.size + 1 ∧ i = .int .i64 k ∧ Hid (findTo t x k = none)) (fun i => t.size + 1 - (intOf i).toNat)
  case atStart => exact ⟨0, by omega, rfl, rfl⟩
  case round =>
    obtain ⟨k, hk, rfl, HN⟩ := hrel
    by_cases hle : k + x.size ≤ t.size
    · cases hat : isAt t x k with
      | true =>
        have HF : Hid (findI t x = k) := findI_hit HN.out hle hat
        have q : ((t.extract k (k + x.size)).toList == x.toList) = true := hat
        clear hat
        go_wp2
        go_ret
        exact ⟨ret_int HF.out.symm, rfl⟩
      | false =>
        have HF : Hid (findTo t x (k + 1) = none) := findTo_miss HN.out (by rw [hat]; simp)
        have q : ((t.extract k (k + x.size)).toList == x.toList) = false := hat
        clear hat
        go_wp2
        go_round
        case rel => exact ⟨k + 1, by omega, by go_num, HF⟩
        case measure => simp [intOf]; omega
    · have HF : Hid (findI t x = -1) := findI_none HN.out (by omega) hk
      go_wp2
      go_ret
      exact ⟨ret_int HF.out.symm, rfl⟩
end Go.Proofs.YtfoekelhcmlagaaDoor

/- A text's pieces between '; ', a piece cut at its first '='; the walks of the specification's l04Pieces and l04Pair. -/
namespace Go.Proofs.YtfoekelhcmlagaaDoor
open Go.RowKit

theorem find_in {t x : ByteArray} (h : 0 ≤ findI t x) : (findI t x).toNat + x.size ≤ t.size ∧ findI t x = ((findI t x).toNat : Int) := by
  refine ⟨?_, by omega⟩
  unfold findI findN at *
  cases hf : findTo t x (t.size + 1) with
  | some k =>
    have := (findTo_lt hf).2.1
    simpa using this
  | none => rw [hf] at h; simp at h
theorem findI_neg {t x : ByteArray} (h : ¬ 0 ≤ findI t x) : findI t x = -1 := by
  unfold findI findN at *
  cases hf : findTo t x (t.size + 1) with
  | some k => rw [hf] at h; simp at h
  | none => rfl
/-- '; ' -/
def semi : ByteArray := ⟨#[59, 32]⟩
/-- the pieces of a text between '; ' -/
def piecesL (t : ByteArray) : List ByteArray :=
  if h : 0 ≤ findI t semi then t.extract 0 (findI t semi).toNat :: piecesL (t.extract ((findI t semi).toNat + 2) t.size) else [t]
termination_by t.size
decreasing_by
  have := (find_in h).1
  have e : semi.size = 2 := rfl
  rw [e] at this
  rw [ByteArray.size_extract]; omega
theorem piecesL_more {t : ByteArray} {k : Nat} (h : findI t semi = k) : piecesL t = t.extract 0 k :: piecesL (t.extract (k + 2) t.size) := by
  rw [piecesL, dif_pos (by omega)]
  have e : (findI t semi).toNat = k := by omega
  rw [e]
theorem piecesL_last {t : ByteArray} (h : ¬ 0 ≤ findI t semi) : piecesL t = [t] := by rw [piecesL, dif_neg h]
theorem piecesL_len (t : ByteArray) : (piecesL t).length ≤ t.size + 1 := by
  generalize hn : t.size = n
  induction n using Nat.strongRecOn generalizing t with
  | _ n ih =>
    by_cases h : 0 ≤ findI t semi
    · obtain ⟨h1, h2⟩ := find_in h
      have e : semi.size = 2 := rfl
      rw [e] at h1
      have hz : (t.extract ((findI t semi).toNat + 2) t.size).size = t.size - ((findI t semi).toNat + 2) := by rw [ByteArray.size_extract]; omega
      rw [piecesL_more h2, List.length_cons]
      have := ih _ (by omega) (t.extract ((findI t semi).toNat + 2) t.size) hz
      omega
    · rw [piecesL_last h]; simp
theorem piecesL_small (t : ByteArray) : ∀ x ∈ piecesL t, x.size ≤ t.size := by
  generalize hn : t.size = n
  induction n using Nat.strongRecOn generalizing t with
  | _ n ih =>
    intro x hx
    by_cases h : 0 ≤ findI t semi
    · obtain ⟨h1, h2⟩ := find_in h
      have e : semi.size = 2 := rfl
      rw [e] at h1
      have hz : (t.extract ((findI t semi).toNat + 2) t.size).size = t.size - ((findI t semi).toNat + 2) := by rw [ByteArray.size_extract]; omega
      rw [piecesL_more h2, List.mem_cons] at hx
      rcases hx with hx | hx
      · rw [hx, ByteArray.size_extract]; omega
      · have := ih _ (by omega) (t.extract ((findI t semi).toNat + 2) t.size) hz x hx
        omega
    · rw [piecesL_last h, List.mem_singleton] at hx
      rw [hx]; omega
def szV : Value → Nat
  | .string s => s.size
  | _ => 0

end Go.Proofs.YtfoekelhcmlagaaDoor

/- A piece cut at its first '='; the walk of the specification's l04Pair. -/
namespace Go.Proofs.YtfoekelhcmlagaaDoor
open Go.RowKit

/-- '=' -/
def equ : ByteArray := ⟨#[61]⟩
/-- a piece's name and value -/
def pairP (t : ByteArray) : ByteArray × ByteArray := if 0 ≤ findI t equ then (t.extract 0 (findI t equ).toNat, t.extract ((findI t equ).toNat + 1) t.size) else (t, ⟨#[]⟩)
theorem pairP_yes {t : ByteArray} {k : Nat} (h : findI t equ = k) : pairP t = (t.extract 0 k, t.extract (k + 1) t.size) := by
  have e : (findI t equ).toNat = k := by omega
  rw [pairP, if_pos (by omega), e]
theorem pairP_no {t : ByteArray} (h : ¬ 0 ≤ findI t equ) : pairP t = (t, ⟨#[]⟩) := by rw [pairP, if_neg h]
theorem pairP_size (t : ByteArray) : (pairP t).1.size ≤ t.size ∧ (pairP t).2.size ≤ t.size := by
  unfold pairP
  split
  · exact ⟨by rw [ByteArray.size_extract]; omega, by rw [ByteArray.size_extract]; omega⟩
  · exact ⟨Nat.le_refl _, Nat.zero_le _⟩

end Go.Proofs.YtfoekelhcmlagaaDoor

/- The walks of the program's pairRight and pairText. Written by implset.py. -/
namespace Go.Proofs.YtfoekelhcmlagaaDoor
open Go.RowKit

set_option maxRecDepth 10000 in
set_option maxHeartbeats 2000000 in
theorem pairRight_any (na va : ByteArray) (w : World) :
    Calls Tryd.prog 109 #[pairV na va] w fun e w' => e = .returned (.bool (pairB na va)) ∧ Below w.heap.size w w' := by
  have K1 : Hid (∀ W, Calls Tryd.prog 150 #[.string na] W fun e w' => e = .returned (.bool (wordB na)) ∧ w' = W) := fun W => wordRight_any na W
  have K2 : Hid (∀ W, Calls Tryd.prog 150 #[.string va] W fun e w' => e = .returned (.bool (wordB va)) ∧ w' = W) := fun W => wordRight_any va W
  have HP : Hid (pairB na va = (!na.toList.isEmpty && wordB na && wordB va)) := rfl
  generalize pairB na va = R at *
  generalize wordB na = b1 at *
  generalize wordB va = b2 at *
  unfold pairV
  cases he : na.toList.isEmpty with
  | true =>
    have HR : Hid (R = false) := by show _ = _; rw [HP.out, he]; rfl
    go_enter Tryd.func109, Tryd.ntmps109
    go_wp2
    go_ret
    exact ⟨ret_bool HR.out.symm, (Below.refl _ _).alloc (Nat.le_refl _) _⟩
  | false =>
    cases b1 with
    | false =>
      have HR : Hid (R = false) := by show _ = _; rw [HP.out, he]; rfl
      go_enter Tryd.func109, Tryd.ntmps109
      go_wp2_with fail
      refine (K1.out _).mono ?_
      rintro e w1 ⟨rfl, rfl⟩
      go_wp2
      go_ret
      exact ⟨ret_bool HR.out.symm, (Below.refl _ _).alloc (Nat.le_refl _) _⟩
    | true =>
      have HR : Hid (R = b2) := by show _ = _; rw [HP.out, he]; cases b2 <;> rfl
      go_enter Tryd.func109, Tryd.ntmps109
      go_wp2_with fail
      refine (K1.out _).mono ?_
      rintro e w1 ⟨rfl, rfl⟩
      go_wp2_with fail
      refine (K2.out _).mono ?_
      rintro e w2 ⟨rfl, rfl⟩
      go_wp2
      go_ret
      exact ⟨ret_bool HR.out.symm, (Below.refl _ _).alloc (Nat.le_refl _) _⟩
end Go.Proofs.YtfoekelhcmlagaaDoor

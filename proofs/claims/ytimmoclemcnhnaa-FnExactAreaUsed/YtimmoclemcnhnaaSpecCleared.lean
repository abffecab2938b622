/- The walks of the specification's l07Fine, l07Clear, AreaClear, AreaUsed. -/
import Derived.Test.YtimmoclemcnhnaaSpecArea
import Derived.Test.YtimmoclemcnhnaaRoomsT
import Derived.Test.YtimmoclemcnhnaaEntryOwn
namespace Go.Proofs.Ytimmoclemcnhnaa
open Go.RowKit

theorem keyB_long {t : ByteArray} (h : 200 < t.size) : keyB t = false := by unfold keyB; rw [decide_eq_false (show ¬ t.size ≤ 200 by omega), Bool.and_false]
set_option maxRecDepth 10000 in
set_option maxHeartbeats 4000000 in
theorem specFine_any (v : Value) (L : List En) (key : ByteArray) (B : Nat) (w : World) (hs : SliceE w B v L) (hn : L.length ≤ 1048576) (hz : ∀ i, i < L.length → (atE L i).na.size ≤ 1048576 ∧ (atE L i).va.size ≤ 1048576) :
    Calls Try.prog 33 #[v, .string key] w fun e w' => e = .returned (.bool (areaB L && keyB key)) ∧ Below w.heap.size w w' := by
  have KA : Hid (∀ W, Below w.heap.size w W → Calls Try.prog 8 #[v] W fun e w' => e = .returned (.bool (areaB L)) ∧ Below W.heap.size W w') := fun W hb => specArea_any v L B W (hs.below hb) hn hz
  have KK : Hid (∀ W, Calls Try.prog 24 #[.string key] W fun e w' => e = .returned (.bool (keyB key)) ∧ w' = W) := fun W => specKey_any key W
  have HL1 : Hid (400 < L.length → areaB L = false) := fun h => areaB_long (by omega)
  have HK1 : Hid (8000 < key.size → keyB key = false) := fun h => keyB_long (by omega)
  obtain ⟨⟨p, cap, rfl, -⟩, -⟩ := hs
  clear hz
  generalize areaB L = ba at *
  generalize keyB key = bk at *
  by_cases h1 : L.length ≤ 400
  · have q1 : decide ((L.length : Int) ≤ (400 : Int)) = true := by rw [decide_eq_true_iff]; omega
    by_cases h2 : key.size ≤ 8000
    · have q2 : decide ((key.size : Int) ≤ (8000 : Int)) = true := by rw [decide_eq_true_iff]; omega
      go_enter Try.func33, Try.ntmps33
      go_wp2_with fail
      refine (KA.out _ (Below.refl _ _)).mono ?_
      rintro e w1 ⟨rfl, hb1⟩
      cases ba with
      | false =>
        go_wp2
        go_ret
        exact ⟨rfl, hb1⟩
      | true =>
        go_wp2_with fail
        refine (KK.out _).mono ?_
        rintro e w2 ⟨rfl, rfl⟩
        go_wp2
        go_ret
        exact ⟨ret_bool (Bool.true_and _).symm, hb1⟩
    · have q2 : decide ((key.size : Int) ≤ (8000 : Int)) = false := by rw [decide_eq_false_iff_not]; omega
      have HB : Hid (bk = false) := HK1.out (by omega)
      go_enter Try.func33, Try.ntmps33
      go_wp2
      go_ret
      exact ⟨ret_bool (by rw [HB.out, Bool.and_false]), Below.refl _ _⟩
  · have q1 : decide ((L.length : Int) ≤ (400 : Int)) = false := by rw [decide_eq_false_iff_not]; omega
    have HB : Hid (ba = false) := HL1.out (by omega)
    go_enter Try.func33, Try.ntmps33
    go_wp2
    go_ret
    exact ⟨ret_bool (by rw [HB.out]; rfl), Below.refl _ _⟩
set_option maxRecDepth 10000 in
set_option maxHeartbeats 4000000 in
theorem specClear_any (v : Value) (L : List En) (key : ByteArray) (B : Nat) (w : World) (hs : SliceE w B v L) (hn : L.length ≤ 16) :
    Calls Try.prog 34 #[v, .string key] w fun e w' => ∃ v', e = .returned v' ∧ SliceE w' w.heap.size v' (otherL L key) ∧ Below w.heap.size w w' := by
  obtain ⟨i0, hi, hy0, hy1, hy2⟩ := info_parts infoEntry
  obtain ⟨⟨p, cap, rfl, hg⟩, -⟩ := hs
  have HG : Hid (0 < L.length → ∃ g, p = some ⟨g, 0, none⟩ ∧ g < w.heap.size ∧ ∀ j, j < L.length → ∀ o, o < 3 → w.cell? ⟨g, j * 3 + o, none⟩ = some (enC (atE L j) o)) := fun h0 => by
    obtain ⟨g, e, -, hgw, hc⟩ := hg h0
    exact ⟨g, e, hgw, fun j hj o ho => (hc j hj o ho).1⟩
  have HZ : Hid (otherL L key = stayE (fun e => !isKey key e) L L.length) := (stayE_all _ L).symm
  have HLen : Hid (∀ k, (stayE (fun e => !isKey key e) L k).length ≤ L.length) := fun k => stayE_len _ L k
  have HSY : Hid (∀ k, k < L.length → ((atE L k).ke.toList == key.toList) = false → ∀ (v : Value) (B : Nat) (w' : World), w'.ownsRow B 41 3 v ((stayE (fun e => !isKey key e) L k).length + 1) (enCells (stayE (fun e => !isKey key e) L k) ++ enVals (atE L k)) → w'.ownsRow B 41 3 v (stayE (fun e => !isKey key e) L (k + 1)).length (enCells (stayE (fun e => !isKey key e) L (k + 1)))) := fun k hlt a v B w' h => by
    rw [stayE_yes hlt (by show (!isKey key (atE L k)) = true; unfold isKey; rw [a]; rfl), ← enCells_snoc, List.length_append]; exact h
  have HSN : Hid (∀ k, k < L.length → ((atE L k).ke.toList == key.toList) = true → stayE (fun e => !isKey key e) L (k + 1) = stayE (fun e => !isKey key e) L k) := fun k hlt a => stayE_no hlt (by show (!isKey key (atE L k)) = false; unfold isKey; rw [a]; rfl)
  have HS0 : Hid (stayE (fun e => !isKey key e) L 0 = []) := stayE_zero _ L
  have O0 : Hid ((w.alloc (.cells #[] 41)).ownsRow w.heap.size 41 3 (.slice (some ⟨w.heap.size, 0, none⟩) 0 0) 0 (enCells [])) := World.ownsRow_made w #[] 0 (Nat.le_refl _) (Nat.zero_le _) rfl
  have B0 : Hid (Below w.heap.size w (w.alloc (.cells #[] 41))) := (Below.refl _ _).alloc (Nat.le_refl _) _
  clear hg
  generalize otherL L key = Z at *
  generalize hst : (fun e => !isKey key e) = st at *
  clear hst
  go_enter Try.func34, Try.ntmps34
  go_wp2
  go_loopw [5, 6] (fun v i wr => ∃ k : Nat, k ≤ L.length ∧ i = .int .i64 k ∧ Hid (wr.ownsRow w.heap.size 41 3 v (stayE st L k).length (enCells (stayE st L k))) ∧ Hid (Below w.heap.size w wr)) (fun _ i _ => L.length - (intOf i).toNat)
  case atStart => exact ⟨0, Nat.zero_le _, rfl, by show World.ownsRow _ _ _ _ _ _ _; rw [HS0.out]; exact O0.out, B0⟩
  case round =>
    obtain ⟨k, hk, rfl, HO, HB⟩ := hrel
    have hle := HLen.out k
    have hws : w.heap.size ≤ wr.heap.size := HB.out.size
    by_cases hlt : k < L.length
    · obtain ⟨g, rfl, hgw, hc⟩ := HG.out (by omega)
      have k0 : (0 : Int) ≤ k := by omega
      have k1 : (k : Int) < L.length := by omega
      have c0 : wr.cell? ⟨g, k * 3, none⟩ = some (.string (atE L k).ke) := by rw [(bcell HB.out).1 _ _ hgw]; exact hc k hlt 0 (by omega)
      have c1 : wr.cell? ⟨g, k * 3 + 1, none⟩ = some (.string (atE L k).na) := by rw [(bcell HB.out).1 _ _ hgw]; exact hc k hlt 1 (by omega)
      have c2 : wr.cell? ⟨g, k * 3 + 2, none⟩ = some (.string (atE L k).va) := by rw [(bcell HB.out).1 _ _ hgw]; exact hc k hlt 2 (by omega)
      have HKY := HSY.out k hlt
      have HKN := HSN.out k hlt
      clear hc
      cases hq : ((atE L k).ke.toList == key.toList) with
      | false =>
        have hqn : ((atE L k).ke.toList != key.toList) = true := by unfold bne; rw [hq]; rfl
        have HKY1 : Hid (∀ (v : Value) (B : Nat) (w' : World), w'.ownsRow B 41 3 v ((stayE st L k).length + 1) (enCells (stayE st L k) ++ enVals (atE L k)) → w'.ownsRow B 41 3 v (stayE st L (k + 1)).length (enCells (stayE st L (k + 1)))) := HKY hq
        clear HKY HKN
        generalize atE L k = y at *
        obtain ⟨ke, na, va⟩ := y
        dsimp only at *
        generalize stayE st L k = Y at *
        go_wp2_with (at_builtin; go_must (refine wpList_append_own _ rfl _ _ 25 rfl w.heap.size 41 i0 (.agg #[.string ⟨#[]⟩, .string ⟨#[]⟩, .string ⟨#[]⟩]) 3 48 Try.underlying25 hi hy0 hy1 hy2 rfl (by decide) _ _ _ rfl (HO.out.alloc _) ⟨wr.heap.size, 0, none⟩ 1 1 (enVals ⟨ke, na, va⟩) rfl rfl (cell_En _ ⟨ke, na, va⟩ _) (one_En ⟨ke, na, va⟩) (by unfold maxLen; omega) (by omega) (by simp; omega) ?_))
        intro v1 w3 ho1 hg1 hn1
        have hb3 : Below w.heap.size w w3 := (HB.out.alloc HB.out.size _).grown hg1 (Nat.le_trans HB.out.size (by simp)) (fun j hj => own_base HO.out j hj)
        have O3 : Hid (w3.ownsRow w.heap.size 41 3 v1 (stayE st L (k + 1)).length (enCells (stayE st L (k + 1)))) := HKY1.out _ _ _ ho1
        have B3 : Hid (Below w.heap.size w w3) := hb3
        clear ho1 hg1 hn1 hb3
        go_wp2
        go_roundw
        case rel => exact ⟨k + 1, by omega, by go_num, O3, B3⟩
        case measure => simp [intOf]; omega
      | true =>
        have hqn : ((atE L k).ke.toList != key.toList) = false := by unfold bne; rw [hq]; rfl
        have HE := HKN hq
        have ON : Hid (∀ v : Value, wr.ownsRow w.heap.size 41 3 v (stayE st L k).length (enCells (stayE st L k)) → wr.ownsRow w.heap.size 41 3 v (stayE st L (k + 1)).length (enCells (stayE st L (k + 1)))) := fun v h => by rw [HE]; exact h
        clear HKY HKN HE
        generalize atE L k = y at *
        obtain ⟨ke, na, va⟩ := y
        dsimp only at *
        go_wp2
        go_roundw
        case rel => exact ⟨k + 1, by omega, by go_num, ON.out _ HO.out, HB⟩
        case measure => simp [intOf]; omega
    · obtain rfl : k = L.length := by omega
      go_wp2
      go_ret
      exact ⟨_, rfl, by rw [HZ.out]; exact sliceE_of_own HO.out, HB.out⟩
set_option maxRecDepth 10000 in
set_option maxHeartbeats 4000000 in
theorem specAreaClear_any (v : Value) (L : List En) (key : ByteArray) (B : Nat) (w : World) (hs : SliceE w B v L) (hn : L.length ≤ 1048576) (hz : ∀ i, i < L.length → (atE L i).na.size ≤ 1048576 ∧ (atE L i).va.size ≤ 1048576) :
    Calls Try.prog 12 #[v, .string key] w fun e w' => ∃ v', e = .returned v' ∧ SliceE w' w.heap.size v' (clearedL L key) ∧ Below w.heap.size w w' := by
  have KF : Hid (Calls Try.prog 33 #[v, .string key] w fun e w' => e = .returned (.bool (areaB L && keyB key)) ∧ Below w.heap.size w w') := specFine_any v L key B w hs hn hz
  have KC : Hid ((areaB L && keyB key) = true → ∀ W, Below w.heap.size w W → Calls Try.prog 34 #[v, .string key] W fun e w' => ∃ v', e = .returned v' ∧ SliceE w' W.heap.size v' (otherL L key) ∧ Below W.heap.size W w') := fun h W hb => by
    rw [Bool.and_eq_true] at h
    exact specClear_any v L key B W (hs.below hb) (areaB_parts h.1).1
  have HY : Hid ((areaB L && keyB key) = true → clearedL L key = otherL L key) := fun h => by unfold clearedL; rw [if_pos h]
  have HNo : Hid ((areaB L && keyB key) = false → clearedL L key = []) := fun h => by unfold clearedL; rw [if_neg (by rw [h]; decide)]
  clear hs hz
  generalize clearedL L key = Z at *
  generalize otherL L key = Y at *
  generalize (areaB L && keyB key) = ok at *
  go_enter Try.func12, Try.ntmps12
  go_wp2_with fail
  refine KF.out.mono ?_
  rintro e w1 ⟨rfl, hb1⟩
  cases ok with
  | false =>
    have HZ : Hid (Z = []) := HNo.out rfl
    have O0 : Hid ((w1.alloc (.cells #[] 41)).ownsRow w1.heap.size 41 3 (.slice (some ⟨w1.heap.size, 0, none⟩) 0 0) 0 (enCells [])) := World.ownsRow_made w1 #[] 0 (Nat.le_refl _) (Nat.zero_le _) rfl
    go_wp2
    go_ret
    exact ⟨_, rfl, by rw [HZ.out]; exact (sliceE_of_own O0.out).mono hb1.size, hb1.alloc hb1.size _⟩
  | true =>
    have KC1 := KC.out rfl
    have HYE : Hid (Z = Y) := HY.out rfl
    go_wp2_with fail
    refine (KC1 _ hb1).mono ?_
    rintro e w2 ⟨v2, rfl, hs2, hb2⟩
    go_wp2
    go_ret
    exact ⟨_, rfl, by rw [HYE.out]; exact hs2.mono hb1.size, hb1.trans (hb2.mono hb1.size)⟩
set_option maxRecDepth 10000 in
set_option maxHeartbeats 4000000 in
theorem specAreaUsed_any (v : Value) (L : List En) (key : ByteArray) (B : Nat) (w : World) (hs : SliceE w B v L) (hn : L.length ≤ 1048576) (hz : ∀ i, i < L.length → (atE L i).na.size ≤ 1048576 ∧ (atE L i).va.size ≤ 1048576) :
    Calls Try.prog 16 #[v, .string key] w fun e w' => e = .returned (.int .i64 (usedI L key : Int)) ∧ Below w.heap.size w w' := by
  have KF : Hid (Calls Try.prog 33 #[v, .string key] w fun e w' => e = .returned (.bool (areaB L && keyB key)) ∧ Below w.heap.size w w') := specFine_any v L key B w hs hn hz
  have KC : Hid ((areaB L && keyB key) = true → ∀ W, Below w.heap.size w W → Calls Try.prog 27 #[v, .string key] W fun e w' => e = .returned (.int .i64 (usedN L key : Int)) ∧ Below W.heap.size W w') := fun h W hb => by
    rw [Bool.and_eq_true] at h
    exact specUsed_any v L key B W (hs.below hb) (areaB_parts h.1).1 hz
  have HY : Hid ((areaB L && keyB key) = true → usedI L key = usedN L key) := fun h => by unfold usedI; rw [if_pos h]
  have HNo : Hid ((areaB L && keyB key) = false → usedI L key = 0) := fun h => by unfold usedI; rw [if_neg (by rw [h]; decide)]
  clear hs hz
  generalize usedI L key = Z at *
  generalize usedN L key = Y at *
  generalize (areaB L && keyB key) = ok at *
  go_enter Try.func16, Try.ntmps16
  go_wp2_with fail
  refine KF.out.mono ?_
  rintro e w1 ⟨rfl, hb1⟩
  cases ok with
  | false =>
    have HZ : Hid (Z = 0) := HNo.out rfl
    go_wp2
    go_ret
    exact ⟨congrArg (fun x : Nat => Ending.returned (.int .i64 (x : Int))) HZ.out.symm, hb1⟩
  | true =>
    have KC1 := KC.out rfl
    have HYE : Hid (Z = Y) := HY.out rfl
    go_wp2_with fail
    refine (KC1 _ hb1).mono ?_
    rintro e w2 ⟨rfl, hb2⟩
    go_wp2
    go_ret
    exact ⟨congrArg (fun x : Nat => Ending.returned (.int .i64 (x : Int))) HYE.out.symm, hb1.trans (hb2.mono hb1.size)⟩
end Go.Proofs.Ytimmoclemcnhnaa

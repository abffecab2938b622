/- The walk of the specification's AreaNames. -/
import Derived.Test.YtimmoclemcnhnaaSpecCleared
import Derived.Test.YtimmoclemcnhnaaStrsIn
namespace Go.Proofs.Ytimmoclemcnhnaa
open Go.RowKit

/-- the names of those of a key among the first k -/
def roomNames (L : List En) (key : ByteArray) (k : Nat) : List ByteArray := (stayE (isKey key) L k).map En.na
theorem roomNames_yes {L : List En} {key : ByteArray} {k : Nat} (hk : k < L.length) (h : isKey key (atE L k) = true) : roomNames L key (k + 1) = roomNames L key k ++ [(atE L k).na] := by unfold roomNames; rw [stayE_yes hk h, List.map_append]; rfl
theorem roomNames_no {L : List En} {key : ByteArray} {k : Nat} (hk : k < L.length) (h : isKey key (atE L k) = false) : roomNames L key (k + 1) = roomNames L key k := by unfold roomNames; rw [stayE_no hk h]
theorem roomNames_len (L : List En) (key : ByteArray) (k : Nat) : (roomNames L key k).length ≤ L.length := by unfold roomNames; rw [List.length_map]; exact stayE_len _ L k
set_option maxRecDepth 10000 in
set_option maxHeartbeats 4000000 in
theorem specAreaNames_any (v : Value) (L : List En) (key : ByteArray) (B : Nat) (w : World) (hs : SliceE w B v L) (hn : L.length ≤ 1048576) (hz : ∀ i, i < L.length → (atE L i).na.size ≤ 1048576 ∧ (atE L i).va.size ≤ 1048576) :
    Calls Try.prog 18 #[v, .string key] w fun e w' => ∃ v', e = .returned v' ∧ SliceS w' w.heap.size v' (namesL L key).length (atL (namesL L key)) ∧ Below w.heap.size w w' := by
  have KF : Hid (∀ W, Below w.heap.size w W → Calls Try.prog 33 #[v, .string key] W fun e w' => e = .returned (.bool (areaB L && keyB key)) ∧ Below W.heap.size W w') := fun W hb => specFine_any v L key B W (hs.below hb) hn hz
  have HP : Hid ((areaB L && keyB key) = true → L.length ≤ 16) := fun h => by
    rw [Bool.and_eq_true] at h
    exact (areaB_parts h.1).1
  have HY : Hid ((areaB L && keyB key) = true → namesL L key = roomNames L key L.length) := fun h => by unfold namesL roomNames roomL; rw [if_pos h, stayE_all]
  have HNo : Hid ((areaB L && keyB key) = false → namesL L key = []) := fun h => by unfold namesL; rw [if_neg (by rw [h]; decide)]
  obtain ⟨i0, hi, hy0, hy1, hy2⟩ := info_parts infoStr
  obtain ⟨⟨p, cap, rfl, hg⟩, -⟩ := hs
  have HG : Hid (0 < L.length → ∃ g, p = some ⟨g, 0, none⟩ ∧ g < w.heap.size ∧ ∀ j, j < L.length → ∀ o, o < 3 → w.cell? ⟨g, j * 3 + o, none⟩ = some (enC (atE L j) o)) := fun h0 => by
    obtain ⟨g, e, -, hgw, hc⟩ := hg h0
    exact ⟨g, e, hgw, fun j hj o ho => (hc j hj o ho).1⟩
  have HSY : Hid (∀ k, k < L.length → ((atE L k).ke.toList == key.toList) = true → roomNames L key (k + 1) = roomNames L key k ++ [(atE L k).na]) := fun k hlt a => roomNames_yes hlt a
  have HSN : Hid (∀ k, k < L.length → ((atE L k).ke.toList == key.toList) = false → roomNames L key (k + 1) = roomNames L key k) := fun k hlt a => roomNames_no hlt a
  have HS0 : Hid (roomNames L key 0 = []) := by show _ = _; unfold roomNames; rw [stayE_zero]; rfl
  have HLen : Hid (∀ k, (roomNames L key k).length ≤ L.length) := fun k => roomNames_len L key k
  have O0 : Hid ((w.alloc (.cells #[] 9)).ownsRow w.heap.size 9 1 (.slice (some ⟨w.heap.size, 0, none⟩) 0 0) 0 (strCells [])) := World.ownsRow_made w #[] 0 (Nat.le_refl _) (Nat.zero_le _) rfl
  have B0 : Hid (Below w.heap.size w (w.alloc (.cells #[] 9))) := (Below.refl _ _).alloc (Nat.le_refl _) _
  clear hg hz
  generalize namesL L key = Z at *
  generalize (areaB L && keyB key) = ok at *
  generalize hF : roomNames L key = F at *
  clear hF
  go_enter Try.func18, Try.ntmps18
  go_wp2
  go_loopw [5, 6] (fun a i wr => ∃ (k : Nat), k ≤ L.length ∧ (ok = false → k = 0) ∧ i = .int .i64 k ∧ Hid (wr.ownsRow w.heap.size 9 1 a (F k).length (strCells (F k))) ∧ Hid (Below w.heap.size w wr)) (fun _ i _ => L.length - (intOf i).toNat)
  case atStart => exact ⟨0, Nat.zero_le _, fun _ => rfl, rfl, by show World.ownsRow _ _ _ _ _ _ _; rw [HS0.out]; exact O0.out, B0⟩
  case round =>
    obtain ⟨k, hk, hok, rfl, HO, HB⟩ := hrel
    have hws : w.heap.size ≤ wr.heap.size := HB.out.size
    have hfl := HLen.out k
    go_wp2_with fail
    refine (KF.out _ HB.out).mono ?_
    rintro e w1 ⟨rfl, hb1⟩
    have B1 : Hid (Below w.heap.size w w1) := HB.out.trans (hb1.mono hws)
    have O1 : Hid (w1.ownsRow w.heap.size 9 1 _ (F k).length (strCells (F k))) := ownR_below HO.out hb1
    have hw1 : w.heap.size ≤ w1.heap.size := B1.out.size
    clear hb1 HB HO hws
    cases ok with
    | false =>
      obtain rfl : k = 0 := hok rfl
      have HZ : Hid (Z = F 0) := by show _ = _; rw [HNo.out rfl, HS0.out]
      go_wp2
      go_ret
      exact ⟨_, rfl, by rw [HZ.out]; exact slice_of_own O1.out, B1.out⟩
    | true =>
    have h16 := HP.out rfl
    by_cases hlt : k < L.length
    · obtain ⟨g, rfl, hgw, hc⟩ := HG.out (by omega)
      have k0 : (0 : Int) ≤ k := by omega
      have k1 : (k : Int) < L.length := by omega
      have c0 : w1.cell? ⟨g, k * 3, none⟩ = some (.string (atE L k).ke) := by rw [(bcell B1.out).1 _ _ hgw]; exact hc k hlt 0 (by omega)
      have c1 : w1.cell? ⟨g, k * 3 + 1, none⟩ = some (.string (atE L k).na) := by rw [(bcell B1.out).1 _ _ hgw]; exact hc k hlt 1 (by omega)
      have hsy := HSY.out k hlt
      have hsn := HSN.out k hlt
      have q1 : decide ((k : Int) < (L.length : Int)) = true := by rw [decide_eq_true_iff]; omega
      clear hc
      cases hq : ((atE L k).ke.toList == key.toList) with
      | true =>
        have HFS : Hid (F (k + 1) = F k ++ [(atE L k).na]) := hsy hq
        clear hsy hsn
        generalize atE L k = y at *
        obtain ⟨ke, na, va⟩ := y
        dsimp only at *
        go_wp2_with (at_builtin; go_must (refine wpList_append_own _ rfl _ _ 33 rfl w.heap.size 9 i0 (.string ⟨#[]⟩) 1 16 Try.underlying33 hi hy0 hy1 hy2 rfl (by decide) _ _ _ rfl (O1.out.alloc _) ⟨w1.heap.size, 0, none⟩ 1 1 [.string na] rfl rfl (cell_one_new _ _ _) (by intro u hu; simp at hu; subst hu; rfl) (by unfold maxLen; omega) (by omega) (by simp; omega) ?_))
        intro v4 w4 ho4 hg4 _
        rw [strCells_snoc] at ho4
        have G1 : Hid (w4.ownsRow w.heap.size 9 1 v4 (F k ++ [na]).length (strCells (F k ++ [na]))) := by show World.ownsRow _ _ _ _ _ _ _; simpa using ho4
        have G2 : Hid (Below w.heap.size w w4) := (B1.out.alloc hw1 _).grown hg4 (by simp; omega) (fun j hj => (O1.out.lt j hj).1)
        clear ho4 hg4
        go_wp2
        go_roundw
        case rel => exact ⟨k + 1, by omega, (fun h => by cases h), by go_num, by rw [HFS.out]; exact G1, G2⟩
        case measure => simp [intOf]; omega
      | false =>
        have HFS := hsn hq
        have ON : Hid (∀ v : Value, w1.ownsRow w.heap.size 9 1 v (F k).length (strCells (F k)) → w1.ownsRow w.heap.size 9 1 v (F (k + 1)).length (strCells (F (k + 1)))) := fun v h => by rw [HFS]; exact h
        clear hsy hsn HFS
        generalize atE L k = y at *
        obtain ⟨ke, na, va⟩ := y
        dsimp only at *
        go_wp2
        go_roundw
        case rel => exact ⟨k + 1, by omega, (fun h => by cases h), by go_num, ON.out _ O1.out, B1⟩
        case measure => simp [intOf]; omega
    · obtain rfl : k = L.length := by omega
      have HZ : Hid (Z = F L.length) := HY.out rfl
      have q1 : decide ((L.length : Int) < (L.length : Int)) = false := by rw [decide_eq_false_iff_not]; omega
      go_wp2
      go_ret
      exact ⟨_, rfl, by rw [HZ.out]; exact slice_of_own O1.out, B1.out⟩
end Go.Proofs.Ytimmoclemcnhnaa

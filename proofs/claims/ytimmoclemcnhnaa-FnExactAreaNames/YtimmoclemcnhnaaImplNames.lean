/- The walk of the program's AreaNames. -/
import Derived.Test.YtimmoclemcnhnaaImplUsed
namespace Go.Proofs.Ytimmoclemcnhnaa
open Go.RowKit Go.Maps

set_option maxRecDepth 10000 in
set_option maxHeartbeats 8000000 in
theorem areaNames_any (v : Value) (L : List En) (key : ByteArray) (B : Nat) (w : World) (hs : SliceE w B v L) (hn : L.length ≤ 1048576) (hz : ∀ i, i < L.length → (atE L i).na.size ≤ 1048576 ∧ (atE L i).va.size ≤ 1048576) :
    Calls Try.prog 19 #[v, .string key] w fun e w' => ∃ v', e = .returned v' ∧ SliceS w' w.heap.size v' (namesL L key).length (atL (namesL L key)) ∧ Below w.heap.size w w' := by
  have KB : Hid (Calls Try.prog 35 #[v, .string key] w fun e w' => (((areaB L && keyB key) = true ∧ ∃ bm, e = .returned (.tuple #[.map (some bm), .nilIface]) ∧ w.heap.size ≤ bm ∧ BookL w' bm 16 L) ∨ ((areaB L && keyB key) = false ∧ e = .returned (.tuple #[.map none, .iface 61 (.agg #[.int .i64 1])]))) ∧ Below w.heap.size w w') := roomBook_any v L key B w hs hn hz
  have HP : Hid ((areaB L && keyB key) = true → RiseE L ∧ L.length ≤ 16) := fun h => by
    rw [Bool.and_eq_true] at h
    exact ⟨area_rise h.1, (areaB_parts h.1).1⟩
  have HY : Hid ((areaB L && keyB key) = true → namesL L key = nameTo (roomL L key) (roomL L key).length) := fun h => by unfold namesL; rw [if_pos h, nameTo_all]
  have HNo : Hid ((areaB L && keyB key) = false → namesL L key = []) := fun h => by unfold namesL; rw [if_neg (by rw [h]; decide)]
  obtain ⟨i0, hi, hy0, hy1, hy2⟩ := info_parts infoStr
  clear hs hz
  generalize namesL L key = Z at *
  generalize (areaB L && keyB key) = ok at *
  go_enter Try.func19, Try.ntmps19
  go_wp2_with fail
  refine KB.out.mono ?_
  rintro e w1 ⟨⟨rfl, bm, rfl, hbm, hm⟩ | ⟨rfl, rfl⟩, hb1⟩
  · obtain ⟨hrise, h16⟩ := HP.out rfl
    have HYZ : Hid (Z = nameTo (roomL L key) (roomL L key).length) := HY.out rfl
    have HNS : Hid (∀ k, k < (roomL L key).length → nameTo (roomL L key) (k + 1) = nameTo (roomL L key) k ++ [(atE (roomL L key) k).na]) := fun k h => nameTo_succ h
    have HNL : Hid (∀ k, k ≤ (roomL L key).length → (nameTo (roomL L key) k).length = k) := fun k h => nameTo_len h
    have HN0 : Hid (nameTo (roomL L key) 0 = []) := rfl
    have KR : Hid (Calls Try.prog 36 #[.map (some bm), .string key] w1 fun e w' => ∃ v, e = .returned v ∧ SliceE w' w1.heap.size v (roomL L key) ∧ Below w1.heap.size w1 w') := room_any bm 16 L L key w1 (by omega) hm hrise (fun _ => Iff.rfl) (by omega)
    have B1 : Hid (Below w.heap.size w w1) := hb1
    have hlen : (roomL L key).length ≤ 16 := Nat.le_trans (List.length_filter_le _ _) h16
    clear hm hb1 hrise HY HNo HP KB
    generalize roomL L key = Y at *
    go_wp2_with fail
    refine KR.out.mono ?_
    rintro e w2 ⟨v2, rfl, hs2, hb2⟩
    have B2 : Hid (Below w.heap.size w w2) := B1.out.trans (hb2.mono B1.out.size)
    have hz2 : w.heap.size ≤ w2.heap.size := B2.out.size
    obtain ⟨⟨p, cap, rfl, hg⟩, -⟩ := hs2
    have HG : Hid (0 < Y.length → ∃ g, p = some ⟨g, 0, none⟩ ∧ g < w2.heap.size ∧ ∀ j, j < Y.length → ∀ o, o < 3 → w2.cell? ⟨g, j * 3 + o, none⟩ = some (enC (atE Y j) o)) := fun h0 => by
      obtain ⟨g, e, -, hgw, hc⟩ := hg h0
      exact ⟨g, e, hgw, fun j hj o ho => (hc j hj o ho).1⟩
    clear hg hb2 KR B1
    generalize hF : nameTo Y = F at *
    clear hF
    go_wp2
    go_loopw [7, 22] (fun a i wr => ∃ (k : Nat), k ≤ Y.length ∧ i = .int .i64 k ∧ Hid (wr.ownsRow w2.heap.size 9 1 a (F k).length (strCells (F k))) ∧ Hid (Below w2.heap.size w2 wr)) (fun _ i _ => Y.length - (intOf i).toNat)
    case atStart => exact ⟨0, Nat.zero_le _, rfl, by show World.ownsRow _ _ _ _ _ _ _; rw [HN0.out]; exact World.ownsRow_nil _ _ _ _, Below.refl _ _⟩
    case round =>
      obtain ⟨k, hk, rfl, HO, HB⟩ := hrel
      have hws : w2.heap.size ≤ wr.heap.size := HB.out.size
      have hfl : (F k).length ≤ 16 := by rw [HNL.out k hk]; omega
      by_cases hlt : k < Y.length
      · obtain ⟨g, rfl, hgw, hc⟩ := HG.out (by omega)
        have k0 : (0 : Int) ≤ k := by omega
        have k1 : (k : Int) < Y.length := by omega
        have c0 : wr.cell? ⟨g, k * 3, none⟩ = some (.string (atE Y k).ke) := by rw [(bcell HB.out).1 _ _ hgw]; exact hc k hlt 0 (by omega)
        have c1 : wr.cell? ⟨g, k * 3 + 1, none⟩ = some (.string (atE Y k).na) := by rw [(bcell HB.out).1 _ _ hgw]; exact hc k hlt 1 (by omega)
        have c2 : wr.cell? ⟨g, k * 3 + 2, none⟩ = some (.string (atE Y k).va) := by rw [(bcell HB.out).1 _ _ hgw]; exact hc k hlt 2 (by omega)
        have HFS : Hid (F (k + 1) = F k ++ [(atE Y k).na]) := HNS.out k hlt
        clear hc
        generalize atE Y k = y at *
        obtain ⟨ke, na, va⟩ := y
        dsimp only at *
        go_wp2_with (at_builtin; go_must (refine wpList_append_own _ rfl _ _ 33 rfl w2.heap.size 9 i0 (.string ⟨#[]⟩) 1 16 Try.underlying33 hi hy0 hy1 hy2 rfl (by decide) _ _ _ rfl ((HO.out.alloc _).alloc _) ⟨wr.heap.size + 1, 0, none⟩ 1 1 [.string na] rfl rfl (by simpa using cell_one_new (wr.alloc (.cells #[.string ke, .string na, .string va] 41)) _ _) (by intro u hu; simp at hu; subst hu; rfl) (by unfold maxLen; omega) (by omega) (by simp; omega) ?_))
        intro v4 w4 ho4 hg4 _
        rw [strCells_snoc] at ho4
        have G1 : Hid (w4.ownsRow w2.heap.size 9 1 v4 (F k ++ [na]).length (strCells (F k ++ [na]))) := by show World.ownsRow _ _ _ _ _ _ _; simpa using ho4
        have G2 : Hid (Below w2.heap.size w2 w4) := ((HB.out.alloc hws _).alloc (by simp; omega) _).grown hg4 (by simp; omega) (fun j hj => (HO.out.lt j hj).1)
        clear ho4 hg4
        go_wp2
        go_roundw
        case rel => exact ⟨k + 1, by omega, by go_num, by rw [HFS.out]; exact G1, G2⟩
        case measure => simp [intOf]; omega
      · obtain rfl : k = Y.length := by omega
        go_wp2
        go_ret
        exact ⟨_, rfl, by rw [HYZ.out]; exact (slice_of_own HO.out).mono hz2, B2.out.trans (HB.out.mono hz2)⟩
  · have HZ : Hid (Z = []) := HNo.out rfl
    go_wp2
    go_ret
    exact ⟨_, rfl, by rw [HZ.out]; exact sliceS_none _ _ _, hb1⟩
end Go.Proofs.Ytimmoclemcnhnaa

/- The walks of the program's AreaUsed and AreaNames. -/
import Derived.Test.YtimmoclemcnhnaaImplCleared
namespace Go.Proofs.Ytimmoclemcnhnaa
open Go.RowKit Go.Maps

theorem sumTo_le {Y : List En} (h : ∀ j, j < Y.length → smallE (atE Y j)) : ∀ k, k ≤ Y.length → sumTo Y k ≤ k * 400
  | 0, _ => Nat.zero_le _
  | k + 1, hk => by
    have := sumTo_le h k (by omega)
    obtain ⟨_, h1, h2⟩ := h k (by omega)
    rw [sumTo]; unfold enN; omega
/-- the names of the first k -/
def nameTo (Y : List En) (k : Nat) : List ByteArray := (Y.take k).map En.na
theorem nameTo_succ {Y : List En} {k : Nat} (h : k < Y.length) : nameTo Y (k + 1) = nameTo Y k ++ [(atE Y k).na] := by
  unfold nameTo
  rw [atE_get h, ← List.take_append_getElem h, List.map_append]; rfl
theorem nameTo_len {Y : List En} {k : Nat} (h : k ≤ Y.length) : (nameTo Y k).length = k := by unfold nameTo; rw [List.length_map, List.length_take]; omega
theorem nameTo_all (Y : List En) : nameTo Y Y.length = Y.map En.na := by unfold nameTo; rw [List.take_length]
theorem sliceS_none (w : World) (B : Nat) (f : Nat → ByteArray) : SliceS w B (.slice none 0 0) 0 f := ⟨none, 0, rfl, fun h => absurd h (by omega)⟩
set_option maxRecDepth 10000 in
set_option maxHeartbeats 8000000 in
theorem areaUsed_any (v : Value) (L : List En) (key : ByteArray) (B : Nat) (w : World) (hs : SliceE w B v L) (hn : L.length ≤ 1048576) (hz : ∀ i, i < L.length → (atE L i).na.size ≤ 1048576 ∧ (atE L i).va.size ≤ 1048576) :
    Calls Try.prog 17 #[v, .string key] w fun e w' => e = .returned (.int .i64 (usedI L key : Int)) ∧ Below w.heap.size w w' := by
  have KB : Hid (Calls Try.prog 35 #[v, .string key] w fun e w' => (((areaB L && keyB key) = true ∧ ∃ bm, e = .returned (.tuple #[.map (some bm), .nilIface]) ∧ w.heap.size ≤ bm ∧ BookL w' bm 16 L) ∨ ((areaB L && keyB key) = false ∧ e = .returned (.tuple #[.map none, .iface 61 (.agg #[.int .i64 1])]))) ∧ Below w.heap.size w w') := roomBook_any v L key B w hs hn hz
  have HP : Hid ((areaB L && keyB key) = true → RiseE L ∧ L.length ≤ 16) := fun h => by
    rw [Bool.and_eq_true] at h
    exact ⟨area_rise h.1, (areaB_parts h.1).1⟩
  have HY : Hid ((areaB L && keyB key) = true → usedI L key = sumTo (roomL L key) (roomL L key).length) := fun h => by unfold usedI; rw [if_pos h, used_room]
  have HNo : Hid ((areaB L && keyB key) = false → usedI L key = 0) := fun h => by unfold usedI; rw [if_neg (by rw [h]; decide)]
  clear hs hz
  generalize usedI L key = Z at *
  generalize (areaB L && keyB key) = ok at *
  go_enter Try.func17, Try.ntmps17
  go_wp2_with fail
  refine KB.out.mono ?_
  rintro e w1 ⟨⟨rfl, bm, rfl, hbm, hm⟩ | ⟨rfl, rfl⟩, hb1⟩
  · obtain ⟨hrise, h16⟩ := HP.out rfl
    have HYZ : Hid (Z = sumTo (roomL L key) (roomL L key).length) := HY.out rfl
    have HYS : Hid (∀ j, j < (roomL L key).length → smallE (atE (roomL L key) j)) := room_small hm.small
    have HSL : Hid (∀ k, k ≤ (roomL L key).length → sumTo (roomL L key) k ≤ k * 400) := sumTo_le (room_small hm.small)
    have KR : Hid (Calls Try.prog 36 #[.map (some bm), .string key] w1 fun e w' => ∃ v, e = .returned v ∧ SliceE w' w1.heap.size v (roomL L key) ∧ Below w1.heap.size w1 w') := room_any bm 16 L L key w1 (by omega) hm hrise (fun _ => Iff.rfl) (by omega)
    have B1 : Hid (Below w.heap.size w w1) := hb1
    have hlen : (roomL L key).length ≤ 16 := Nat.le_trans (List.length_filter_le _ _) h16
    clear hm hb1 hrise HY HNo HP KB
    generalize roomL L key = Y at *
    go_wp2_with fail
    refine KR.out.mono ?_
    rintro e w2 ⟨v2, rfl, hs2, hb2⟩
    have B2 : Hid (Below w.heap.size w w2) := B1.out.trans (hb2.mono B1.out.size)
    obtain ⟨⟨p, cap, rfl, hg⟩, -⟩ := hs2
    have HG : Hid (0 < Y.length → ∃ g, p = some ⟨g, 0, none⟩ ∧ g < w2.heap.size ∧ ∀ j, j < Y.length → ∀ o, o < 3 → w2.cell? ⟨g, j * 3 + o, none⟩ = some (enC (atE Y j) o)) := fun h0 => by
      obtain ⟨g, e, -, hgw, hc⟩ := hg h0
      exact ⟨g, e, hgw, fun j hj o ho => (hc j hj o ho).1⟩
    have HS : Hid (∀ k, sumTo Y (k + 1) = sumTo Y k + enN (atE Y k)) := fun k => rfl
    have h0 : Hid (sumTo Y 0 = 0) := rfl
    clear hg hb2 KR B1
    go_wp2
    go_loopw [7, 22] (fun a i wr => ∃ (k : Nat), k ≤ Y.length ∧ i = .int .i64 k ∧ a = .int .i64 (sumTo Y k : Int) ∧ Hid (Below w2.heap.size w2 wr)) (fun _ i _ => Y.length - (intOf i).toNat)
    case atStart => exact ⟨0, Nat.zero_le _, rfl, by rw [h0.out]; rfl, Below.refl _ _⟩
    case round =>
      obtain ⟨k, hk, rfl, rfl, HB⟩ := hrel
      have hws : w2.heap.size ≤ wr.heap.size := HB.out.size
      by_cases hlt : k < Y.length
      · obtain ⟨g, rfl, hgw, hc⟩ := HG.out (by omega)
        have k0 : (0 : Int) ≤ k := by omega
        have k1 : (k : Int) < Y.length := by omega
        have c0 : wr.cell? ⟨g, k * 3, none⟩ = some (.string (atE Y k).ke) := by rw [(bcell HB.out).1 _ _ hgw]; exact hc k hlt 0 (by omega)
        have c1 : wr.cell? ⟨g, k * 3 + 1, none⟩ = some (.string (atE Y k).na) := by rw [(bcell HB.out).1 _ _ hgw]; exact hc k hlt 1 (by omega)
        have c2 : wr.cell? ⟨g, k * 3 + 2, none⟩ = some (.string (atE Y k).va) := by rw [(bcell HB.out).1 _ _ hgw]; exact hc k hlt 2 (by omega)
        have hsm := HYS.out k hlt
        have KE : Hid (∀ W, Calls Try.prog 31 #[.agg #[.string (atE Y k).ke, .string (atE Y k).na, .string (atE Y k).va]] W fun r w' => r = .returned (.int .i64 (enN (atE Y k) : Int)) ∧ Below W.heap.size W w') := fun W => entryBytes_any (atE Y k) W ⟨by have := hsm.2.1; omega, by have := hsm.2.2; omega⟩
        have hu := HSL.out (k + 1) (by omega)
        have hu0 := HSL.out k hk
        have hs1 := HS.out k
        have HA : Hid (∀ o, Below wr.heap.size wr (wr.alloc o)) := fun o => (Below.refl _ _).alloc (Nat.le_refl _) _
        clear hc hsm
        have HU : Hid (∃ u', sumTo Y (k + 1) = u') := ⟨_, rfl⟩
        obtain ⟨u', hu'⟩ := HU.out
        have HU' : Hid (sumTo Y (k + 1) = u') := hu'
        rw [hu'] at hu hs1
        clear hu' HU
        generalize sumTo Y k = u at *
        generalize enN (atE Y k) = z at *
        generalize atE Y k = y at *
        obtain ⟨ke, na, va⟩ := y
        dsimp only at *
        have hw2 : wrap64 ((u : Int) + (z : Int)) = (u' : Int) := by rw [hs1]; unfold wrap64; omega
        go_wp2_with fail
        refine (KE.out _).mono ?_
        rintro e w3 ⟨rfl, hb3⟩
        have B3 : Hid (Below w2.heap.size w2 w3) := HB.out.trans (((HA.out _).trans (hb3.mono (by simp))).mono hws)
        clear hb3
        go_wp2
        go_roundw
        case rel => exact ⟨k + 1, by omega, by go_num, by rw [HU'.out]; first | rfl | exact val_int hw2, B3⟩
        case measure => simp [intOf]; omega
      · obtain rfl : k = Y.length := by omega
        go_wp2
        go_ret
        exact ⟨congrArg (fun x : Nat => Ending.returned (.int .i64 (x : Int))) HYZ.out.symm, B2.out.trans (HB.out.mono (B2.out.size))⟩
  · have HZ : Hid (Z = 0) := HNo.out rfl
    go_wp2
    go_ret
    exact ⟨congrArg (fun x : Nat => Ending.returned (.int .i64 (x : Int))) HZ.out.symm, hb1⟩
end Go.Proofs.Ytimmoclemcnhnaa

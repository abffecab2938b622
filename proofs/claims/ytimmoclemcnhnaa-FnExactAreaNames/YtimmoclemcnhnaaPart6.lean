/- 8 of this claim's texts, one behind the other. -/
import Derived.Test.YtimmoclemcnhnaaPart1
import Derived.Test.YtimmoclemcnhnaaPart5
import Derived.Test.YtimmoclemcnhnaaPart3
import Derived.Deep.RegionHeld3
import Derived.Test.YtimmoclemcnhnaaPart2
/- Slices of structs while others are marked. -/
namespace Go.Proofs.Ytimmoclemcnhnaa
open Go.RowKit

theorem SliceR.place {w : World} {B sz n : Nat} {v : Value} {f : Nat → Nat → Value} (h : SliceR w B sz v n f) : 0 < n → ∃ g, v.ownBlock = some g ∧ B ≤ g ∧ g < w.heap.size := by
  obtain ⟨p, cap, rfl, h⟩ := h
  intro hn
  obtain ⟨g, rfl, hB, hg, -⟩ := h hn
  exact ⟨g, rfl, hB, hg⟩
theorem SliceR.keepG {w w' : World} {B sz n G : Nat} {v : Value} {f : Nat → Nat → Value} (h : SliceR w B sz v n f) (hg : w.grownBy w' (some G)) (hne : 0 < n → ∃ g, v.ownBlock = some g ∧ g ≠ G) : SliceR w' B sz v n f := by
  obtain ⟨p, cap, rfl, h⟩ := h
  refine ⟨p, cap, rfl, fun hn => ?_⟩
  obtain ⟨g, rfl, hB, hgw, hc⟩ := h hn
  obtain ⟨g', e, hn'⟩ := hne hn
  obtain rfl : g = g' := Option.some.inj e
  have hb : w'.heap[g]? = w.heap[g]? := hg.block g hgw (fun e => hn' (Option.some.inj e))
  refine ⟨g, rfl, hB, Nat.lt_of_lt_of_le hgw hg.size, fun j hj o ho => ⟨?_, ?_⟩⟩
  · rw [World.cell?_of_block (a := ⟨g, j * sz + o, none⟩) hb]; exact (hc j hj o ho).1
  · rw [World.frozen?_of_block (a := ⟨g, j * sz + o, none⟩) hb]; exact (hc j hj o ho).2
end Go.Proofs.Ytimmoclemcnhnaa

/- The walks of the program's AreaClear, AreaUsed, AreaNames. -/
namespace Go.Proofs.Ytimmoclemcnhnaa
open Go.RowKit Go.Maps

theorem SliceE.keepB {w w' : World} {B G : Nat} {v : Value} {L : List En} (h : SliceE w B v L) (hg : w.grownBy w' (some G)) (hne : G < B) : SliceE w' B v L := ⟨h.1.keepG hg (fun h0 => by
  obtain ⟨g, e, hB, -⟩ := h.1.place h0
  exact ⟨g, e, by omega⟩), h.2⟩
theorem keyE_drop {L M M' Y : List En} {k : Nat} (hk : k < Y.length) (h : ∀ x, x ∈ M ↔ x ∈ L ∧ ∀ j, j < k → keyE x ≠ keyE (atE Y j)) (h' : ∀ x, x ∈ M' ↔ x ∈ M ∧ keyE x ≠ keyE (atE Y k)) : ∀ x, x ∈ M' ↔ x ∈ L ∧ ∀ j, j < k + 1 → keyE x ≠ keyE (atE Y j) := by
  intro x
  rw [h' x, h x]
  constructor
  · rintro ⟨⟨h1, h2⟩, h3⟩
    refine ⟨h1, fun j hj => ?_⟩
    by_cases e : j = k
    · subst e; exact h3
    · exact h2 j (by omega)
  · rintro ⟨h1, h2⟩
    exact ⟨⟨h1, fun j hj => h2 j (by omega)⟩, h2 k (by omega)⟩
/-- a book without one entry -/
def lessE (L : List En) (c : En) : List En := L.filter (fun x => !(keyE x).sameKey (keyE c))
theorem lessE_mem (L : List En) (c : En) : ∀ x, x ∈ lessE L c ↔ x ∈ L ∧ keyE x ≠ keyE c := by
  intro x
  unfold lessE
  rw [List.mem_filter]
  constructor
  · rintro ⟨h1, h2⟩
    refine ⟨h1, fun e => ?_⟩
    rw [e, WideAt.sameKey_self (keyE_lit c)] at h2; cases h2
  · rintro ⟨h1, h2⟩
    exact ⟨h1, by rw [Maps.sameKey_ne h2]; rfl⟩
theorem room_small {L : List En} {key : ByteArray} (h : ∀ e, e ∈ L → smallE e) : ∀ j, j < (roomL L key).length → smallE (atE (roomL L key) j) := by
  intro j hj
  rw [atE_get hj]
  exact h _ (List.mem_filter.1 (List.getElem_mem hj)).1
set_option maxRecDepth 10000 in
set_option maxHeartbeats 8000000 in
theorem areaClear_any (v : Value) (L : List En) (key : ByteArray) (B : Nat) (w : World) (hs : SliceE w B v L) (hn : L.length ≤ 1048576) (hz : ∀ i, i < L.length → (atE L i).na.size ≤ 1048576 ∧ (atE L i).va.size ≤ 1048576) :
    Calls Try.prog 13 #[v, .string key] w fun e w' => ∃ v', e = .returned v' ∧ SliceE w' w.heap.size v' (clearedL L key) ∧ Below w.heap.size w w' := by
  have KB : Hid (Calls Try.prog 35 #[v, .string key] w fun e w' => (((areaB L && keyB key) = true ∧ ∃ bm, e = .returned (.tuple #[.map (some bm), .nilIface]) ∧ w.heap.size ≤ bm ∧ BookL w' bm 16 L) ∨ ((areaB L && keyB key) = false ∧ e = .returned (.tuple #[.map none, .iface 61 (.agg #[.int .i64 1])]))) ∧ Below w.heap.size w w') := roomBook_any v L key B w hs hn hz
  have HP : Hid ((areaB L && keyB key) = true → RiseE L ∧ L.length ≤ 16) := fun h => by
    rw [Bool.and_eq_true] at h
    exact ⟨area_rise h.1, (areaB_parts h.1).1⟩
  have HY : Hid ((areaB L && keyB key) = true → clearedL L key = otherL L key) := fun h => by unfold clearedL; rw [if_pos h]
  have HNo : Hid ((areaB L && keyB key) = false → clearedL L key = []) := fun h => by unfold clearedL; rw [if_neg (by rw [h]; decide)]
  clear hs hz
  generalize clearedL L key = Z at *
  generalize (areaB L && keyB key) = ok at *
  go_enter Try.func13, Try.ntmps13
  go_wp2_with fail
  refine KB.out.mono ?_
  rintro e w1 ⟨⟨rfl, bm, rfl, hbm, hm⟩ | ⟨rfl, rfl⟩, hb1⟩
  · obtain ⟨hrise, h16⟩ := HP.out rfl
    have HYZ : Hid (Z = otherL L key) := HY.out rfl
    have hsm := hm.small
    have hbmw := hm.lt
    have KR : Hid (Calls Try.prog 36 #[.map (some bm), .string key] w1 fun e w' => ∃ v, e = .returned v ∧ SliceE w' w1.heap.size v (roomL L key) ∧ Below w1.heap.size w1 w') := room_any bm 16 L L key w1 (by omega) hm hrise (fun _ => Iff.rfl) (by omega)
    have HYS : Hid (∀ j, j < (roomL L key).length → smallE (atE (roomL L key) j)) := room_small hsm
    have HFin : Hid (∀ (M : List En) (W : World), BookL W bm 16 M → (∀ x, x ∈ M ↔ x ∈ L ∧ ∀ j, j < (roomL L key).length → keyE x ≠ keyE (atE (roomL L key) j)) → Calls Try.prog 38 #[.map (some bm)] W fun e w' => ∃ v, e = .returned v ∧ SliceE w' W.heap.size v Z ∧ Below W.heap.size W w') := fun M W h1 h2 => by
      rw [HYZ.out]
      exact list_any bm 16 M (otherL L key) W (by omega) h1 (rise_filter hrise _) (others_of hsm h2)
    have HM : Hid (BookL w1 bm 16 L) := hm
    have B1 : Hid (Below w.heap.size w w1) := hb1
    have hlen : (roomL L key).length ≤ 16 := Nat.le_trans (List.length_filter_le _ _) h16
    clear hm hb1 hsm hrise HY HNo HP KB HYZ
    generalize roomL L key = Y at *
    go_wp2_with fail
    refine KR.out.mono ?_
    rintro e w2 ⟨v2, rfl, hs2, hb2⟩
    have S2 : Hid (SliceE w2 w1.heap.size v2 Y) := hs2
    have M2 : Hid (BookL w2 bm 16 L) := HM.out.below hb2
    have B2 : Hid (Below w.heap.size w w2) := B1.out.trans (hb2.mono B1.out.size)
    obtain ⟨p, cap, hv2⟩ : ∃ p cap, v2 = .slice p Y.length cap := by obtain ⟨⟨p, cap, e, -⟩, -⟩ := hs2; exact ⟨p, cap, e⟩
    clear hs2 hb2 KR HM B1
    subst hv2
    go_wp2
    go_loopw [21] (fun i wr => ∃ (k : Nat) (M : List En), k ≤ Y.length ∧ i = .int .i64 k ∧ Hid (BookL wr bm 16 M) ∧ Hid (∀ x, x ∈ M ↔ x ∈ L ∧ ∀ j, j < k → keyE x ≠ keyE (atE Y j)) ∧ Hid (SliceE wr w1.heap.size (.slice p Y.length cap) Y) ∧ Hid (Below w.heap.size w wr)) (fun i _ => Y.length - (intOf i).toNat)
    case atStart => exact ⟨0, L, Nat.zero_le _, rfl, M2, fun x => ⟨fun h => ⟨h, fun j hj => absurd hj (by omega)⟩, fun h => h.1⟩, S2, B2⟩
    case round =>
      obtain ⟨k, M, hk, rfl, HM, HX, HS, HB⟩ := hrel
      have hws : w.heap.size ≤ wr.heap.size := HB.out.size
      by_cases hlt : k < Y.length
      · obtain ⟨⟨p', cap', e', hg⟩, -⟩ := HS.out
        injection e' with e1 _ e3
        subst e1 e3
        obtain ⟨g, rfl, -, hgw, hc⟩ := hg (by omega)
        have k0 : (0 : Int) ≤ k := by omega
        have k1 : (k : Int) < Y.length := by omega
        have c0 : wr.cell? ⟨g, k * 3, none⟩ = some (.string (atE Y k).ke) := (hc k hlt 0 (by omega)).1
        have c1 : wr.cell? ⟨g, k * 3 + 1, none⟩ = some (.string (atE Y k).na) := (hc k hlt 1 (by omega)).1
        have c2 : wr.cell? ⟨g, k * 3 + 2, none⟩ = some (.string (atE Y k).va) := (hc k hlt 2 (by omega)).1
        have hmb := (HM.out.lt)
        have KD : Hid (∀ W, Below wr.heap.size wr W → Calls Try.prog 37 #[.map (some bm), .agg #[.string (atE Y k).ke, .string (atE Y k).na, .string (atE Y k).va]] W fun e w' => e = .returned (.tuple #[]) ∧ BookL w' bm 16 (lessE M (atE Y k)) ∧ W.grownBy w' (some bm)) := fun W hb => (drop_any bm 16 M (atE Y k) W (HM.out.below hb) (HYS.out k hlt)).mono (fun e w' ⟨h1, h2, h3⟩ => ⟨h1, h2 _ (lessE_mem M _), h3⟩)
        have HX1 : Hid (∀ x, x ∈ lessE M (atE Y k) ↔ x ∈ L ∧ ∀ j, j < k + 1 → keyE x ≠ keyE (atE Y j)) := keyE_drop hlt HX.out (lessE_mem M _)
        clear hg hc HX
        have HA : Hid (∀ o, Below wr.heap.size wr (wr.alloc o)) := fun o => (Below.refl _ _).alloc (Nat.le_refl _) _
        generalize lessE M (atE Y k) = M' at *
        generalize atE Y k = y at *
        obtain ⟨ke, na, va⟩ := y
        dsimp only at *
        go_wp2_with fail
        refine (KD.out _ (HA.out _)).mono ?_
        rintro e w3 ⟨rfl, hm3, hg3⟩
        have S3 : Hid (SliceE w3 w1.heap.size (.slice (some ⟨g, 0, none⟩) Y.length cap) Y) := (HS.out.below (HA.out _)).keepB hg3 hbmw
        have B3 : Hid (Below w.heap.size w w3) := (HB.out.trans ((HA.out _).mono hws)).grown hg3 (by simp; omega) (fun j hj => by have := Option.some.inj hj; omega)
        have M3 : Hid (BookL w3 bm 16 M') := hm3
        clear hm3 hg3 KD c0 c1 c2
        go_wp2
        go_roundw
        case rel => exact ⟨k + 1, M', by omega, by go_num, M3, HX1, S3, B3⟩
        case measure => simp [intOf]; omega
      · obtain rfl : k = Y.length := by omega
        go_wp2_with fail
        refine (HFin.out M _ HM.out HX.out).mono ?_
        rintro e w4 ⟨v4, rfl, hs4, hb4⟩
        have S4 : Hid (SliceE w4 w.heap.size v4 Z) := hs4.mono hws
        have B4 : Hid (Below w.heap.size w w4) := HB.out.trans (hb4.mono hws)
        clear hs4 hb4
        go_wp2
        go_ret
        exact ⟨_, rfl, S4.out, B4.out⟩
  · have HZ : Hid (Z = []) := HNo.out rfl
    go_wp2
    go_ret
    exact ⟨_, rfl, by rw [HZ.out]; exact sliceE_none _ _, hb1⟩
end Go.Proofs.Ytimmoclemcnhnaa

/- The walks of the program's AreaUsed and AreaNames. -/
namespace Go.Proofs.Ytimmoclemcnhnaa
open Go.RowKit Go.Maps

theorem sumTo_le {Y : List En} (h : ∀ j, j < Y.length → smallE (atE Y j)) : ∀ k, k ≤ Y.length → sumTo Y k ≤ k * 400
  | 0, _ => Nat.zero_le _
  | k + 1, hk => by
    have := sumTo_le h k (by omega)
    obtain ⟨_, h1, h2⟩ := h k (by omega)
    rw [sumTo]; unfold enN; omega
/-- the names of the first k -/
def nameTo (Y : List En) (k : Nat) : List ByteArray := (Y.take k).map En.na
theorem nameTo_succ {Y : List En} {k : Nat} (h : k < Y.length) : nameTo Y (k + 1) = nameTo Y k ++ [(atE Y k).na] := by
  unfold nameTo
  rw [atE_get h, ← List.take_append_getElem h, List.map_append]; rfl
theorem nameTo_len {Y : List En} {k : Nat} (h : k ≤ Y.length) : (nameTo Y k).length = k := by unfold nameTo; rw [List.length_map, List.length_take]; omega
theorem nameTo_all (Y : List En) : nameTo Y Y.length = Y.map En.na := by unfold nameTo; rw [List.take_length]
theorem sliceS_none (w : World) (B : Nat) (f : Nat → ByteArray) : SliceS w B (.slice none 0 0) 0 f := ⟨none, 0, rfl, fun h => absurd h (by omega)⟩
set_option maxRecDepth 10000 in
set_option maxHeartbeats 8000000 in
theorem areaUsed_any (v : Value) (L : List En) (key : ByteArray) (B : Nat) (w : World) (hs : SliceE w B v L) (hn : L.length ≤ 1048576) (hz : ∀ i, i < L.length → (atE L i).na.size ≤ 1048576 ∧ (atE L i).va.size ≤ 1048576) :
    Calls Try.prog 17 #[v, .string key] w fun e w' => e = .returned (.int .i64 (usedI L key : Int)) ∧ Below w.heap.size w w' := by
  have KB : Hid (Calls Try.prog 35 #[v, .string key] w fun e w' => (((areaB L && keyB key) = true ∧ ∃ bm, e = .returned (.tuple #[.map (some bm), .nilIface]) ∧ w.heap.size ≤ bm ∧ BookL w' bm 16 L) ∨ ((areaB L && keyB key) = false ∧ e = .returned (.tuple #[.map none, .iface 61 (.agg #[.int .i64 1])]))) ∧ Below w.heap.size w w') := roomBook_any v L key B w hs hn hz
  have HP : Hid ((areaB L && keyB key) = true → RiseE L ∧ L.length ≤ 16) := fun h => by
    rw [Bool.and_eq_true] at h
    exact ⟨area_rise h.1, (areaB_parts h.1).1⟩
  have HY : Hid ((areaB L && keyB key) = true → usedI L key = sumTo (roomL L key) (roomL L key).length) := fun h => by unfold usedI; rw [if_pos h, used_room]
  have HNo : Hid ((areaB L && keyB key) = false → usedI L key = 0) := fun h => by unfold usedI; rw [if_neg (by rw [h]; decide)]
  clear hs hz
  generalize usedI L key = Z at *
  generalize (areaB L && keyB key) = ok at *
  go_enter Try.func17, Try.ntmps17
  go_wp2_with fail
  refine KB.out.mono ?_
  rintro e w1 ⟨⟨rfl, bm, rfl, hbm, hm⟩ | ⟨rfl, rfl⟩, hb1⟩
  · obtain ⟨hrise, h16⟩ := HP.out rfl
    have HYZ : Hid (Z = sumTo (roomL L key) (roomL L key).length) := HY.out rfl
    have HYS : Hid (∀ j, j < (roomL L key).length → smallE (atE (roomL L key) j)) := room_small hm.small
    have HSL : Hid (∀ k, k ≤ (roomL L key).length → sumTo (roomL L key) k ≤ k * 400) := sumTo_le (room_small hm.small)
    have KR : Hid (Calls Try.prog 36 #[.map (some bm), .string key] w1 fun e w' => ∃ v, e = .returned v ∧ SliceE w' w1.heap.size v (roomL L key) ∧ Below w1.heap.size w1 w') := room_any bm 16 L L key w1 (by omega) hm hrise (fun _ => Iff.rfl) (by omega)
    have B1 : Hid (Below w.heap.size w w1) := hb1
    have hlen : (roomL L key).length ≤ 16 := Nat.le_trans (List.length_filter_le _ _) h16
    clear hm hb1 hrise HY HNo HP KB
    generalize roomL L key = Y at *
    go_wp2_with fail
    refine KR.out.mono ?_
    rintro e w2 ⟨v2, rfl, hs2, hb2⟩
    have B2 : Hid (Below w.heap.size w w2) := B1.out.trans (hb2.mono B1.out.size)
    obtain ⟨⟨p, cap, rfl, hg⟩, -⟩ := hs2
    have HG : Hid (0 < Y.length → ∃ g, p = some ⟨g, 0, none⟩ ∧ g < w2.heap.size ∧ ∀ j, j < Y.length → ∀ o, o < 3 → w2.cell? ⟨g, j * 3 + o, none⟩ = some (enC (atE Y j) o)) := fun h0 => by
      obtain ⟨g, e, -, hgw, hc⟩ := hg h0
      exact ⟨g, e, hgw, fun j hj o ho => (hc j hj o ho).1⟩
    have HS : Hid (∀ k, sumTo Y (k + 1) = sumTo Y k + enN (atE Y k)) := fun k => rfl
    have h0 : Hid (sumTo Y 0 = 0) := rfl
    clear hg hb2 KR B1
    go_wp2
    go_loopw [7, 22] (fun a i wr => ∃ (k : Nat), k ≤ Y.length ∧ i = .int .i64 k ∧ a = .int .i64 (sumTo Y k : Int) ∧ Hid (Below w2.heap.size w2 wr)) (fun _ i _ => Y.length - (intOf i).toNat)
    case atStart => exact ⟨0, Nat.zero_le _, rfl, by rw [h0.out]; rfl, Below.refl _ _⟩
    case round =>
      obtain ⟨k, hk, rfl, rfl, HB⟩ := hrel
      have hws : w2.heap.size ≤ wr.heap.size := HB.out.size
      by_cases hlt : k < Y.length
      · obtain ⟨g, rfl, hgw, hc⟩ := HG.out (by omega)
        have k0 : (0 : Int) ≤ k := by omega
        have k1 : (k : Int) < Y.length := by omega
        have c0 : wr.cell? ⟨g, k * 3, none⟩ = some (.string (atE Y k).ke) := by rw [(bcell HB.out).1 _ _ hgw]; exact hc k hlt 0 (by omega)
        have c1 : wr.cell? ⟨g, k * 3 + 1, none⟩ = some (.string (atE Y k).na) := by rw [(bcell HB.out).1 _ _ hgw]; exact hc k hlt 1 (by omega)
        have c2 : wr.cell? ⟨g, k * 3 + 2, none⟩ = some (.string (atE Y k).va) := by rw [(bcell HB.out).1 _ _ hgw]; exact hc k hlt 2 (by omega)
        have hsm := HYS.out k hlt
        have KE : Hid (∀ W, Calls Try.prog 31 #[.agg #[.string (atE Y k).ke, .string (atE Y k).na, .string (atE Y k).va]] W fun r w' => r = .returned (.int .i64 (enN (atE Y k) : Int)) ∧ Below W.heap.size W w') := fun W => entryBytes_any (atE Y k) W ⟨by have := hsm.2.1; omega, by have := hsm.2.2; omega⟩
        have hu := HSL.out (k + 1) (by omega)
        have hu0 := HSL.out k hk
        have hs1 := HS.out k
        have HA : Hid (∀ o, Below wr.heap.size wr (wr.alloc o)) := fun o => (Below.refl _ _).alloc (Nat.le_refl _) _
        clear hc hsm
        have HU : Hid (∃ u', sumTo Y (k + 1) = u') := ⟨_, rfl⟩
        obtain ⟨u', hu'⟩ := HU.out
        have HU' : Hid (sumTo Y (k + 1) = u') := hu'
        rw [hu'] at hu hs1
        clear hu' HU
        generalize sumTo Y k = u at *
        generalize enN (atE Y k) = z at *
        generalize atE Y k = y at *
        obtain ⟨ke, na, va⟩ := y
        dsimp only at *
        have hw2 : wrap64 ((u : Int) + (z : Int)) = (u' : Int) := by rw [hs1]; unfold wrap64; omega
        go_wp2_with fail
        refine (KE.out _).mono ?_
        rintro e w3 ⟨rfl, hb3⟩
        have B3 : Hid (Below w2.heap.size w2 w3) := HB.out.trans (((HA.out _).trans (hb3.mono (by simp))).mono hws)
        clear hb3
        go_wp2
        go_roundw
        case rel => exact ⟨k + 1, by omega, by go_num, by rw [HU'.out]; first | rfl | exact val_int hw2, B3⟩
        case measure => simp [intOf]; omega
      · obtain rfl : k = Y.length := by omega
        go_wp2
        go_ret
        exact ⟨congrArg (fun x : Nat => Ending.returned (.int .i64 (x : Int))) HYZ.out.symm, B2.out.trans (HB.out.mono (B2.out.size))⟩
  · have HZ : Hid (Z = 0) := HNo.out rfl
    go_wp2
    go_ret
    exact ⟨congrArg (fun x : Nat => Ending.returned (.int .i64 (x : Int))) HZ.out.symm, hb1⟩
end Go.Proofs.Ytimmoclemcnhnaa

/- The walk of the program's AreaNames. -/
namespace Go.Proofs.Ytimmoclemcnhnaa
open Go.RowKit Go.Maps

set_option maxRecDepth 10000 in
set_option maxHeartbeats 8000000 in
theorem areaNames_any (v : Value) (L : List En) (key : ByteArray) (B : Nat) (w : World) (hs : SliceE w B v L) (hn : L.length ≤ 1048576) (hz : ∀ i, i < L.length → (atE L i).na.size ≤ 1048576 ∧ (atE L i).va.size ≤ 1048576) :
    Calls Try.prog 19 #[v, .string key] w fun e w' => ∃ v', e = .returned v' ∧ SliceS w' w.heap.size v' (namesL L key).length (atL (namesL L key)) ∧ Below w.heap.size w w' := by
  have KB : Hid (Calls Try.prog 35 #[v, .string key] w fun e w' => (((areaB L && keyB key) = true ∧ ∃ bm, e = .returned (.tuple #[.map (some bm), .nilIface]) ∧ w.heap.size ≤ bm ∧ BookL w' bm 16 L) ∨ ((areaB L && keyB key) = false ∧ e = .returned (.tuple #[.map none, .iface 61 (.agg #[.int .i64 1])]))) ∧ Below w.heap.size w w') := roomBook_any v L key B w hs hn hz
  have HP : Hid ((areaB L && keyB key) = true → RiseE L ∧ L.length ≤ 16) := fun h => by
    rw [Bool.and_eq_true] at h
    exact ⟨area_rise h.1, (areaB_parts h.1).1⟩
  have HY : Hid ((areaB L && keyB key) = true → namesL L key = nameTo (roomL L key) (roomL L key).length) := fun h => by unfold namesL; rw [if_pos h, nameTo_all]
  have HNo : Hid ((areaB L && keyB key) = false → namesL L key = []) := fun h => by unfold namesL; rw [if_neg (by rw [h]; decide)]
  obtain ⟨i0, hi, hy0, hy1, hy2⟩ := info_parts infoStr
  clear hs hz
  generalize namesL L key = Z at *
  generalize (areaB L && keyB key) = ok at *
  go_enter Try.func19, Try.ntmps19
  go_wp2_with fail
  refine KB.out.mono ?_
  rintro e w1 ⟨⟨rfl, bm, rfl, hbm, hm⟩ | ⟨rfl, rfl⟩, hb1⟩
  · obtain ⟨hrise, h16⟩ := HP.out rfl
    have HYZ : Hid (Z = nameTo (roomL L key) (roomL L key).length) := HY.out rfl
    have HNS : Hid (∀ k, k < (roomL L key).length → nameTo (roomL L key) (k + 1) = nameTo (roomL L key) k ++ [(atE (roomL L key) k).na]) := fun k h => nameTo_succ h
    have HNL : Hid (∀ k, k ≤ (roomL L key).length → (nameTo (roomL L key) k).length = k) := fun k h => nameTo_len h
    have HN0 : Hid (nameTo (roomL L key) 0 = []) := rfl
    have KR : Hid (Calls Try.prog 36 #[.map (some bm), .string key] w1 fun e w' => ∃ v, e = .returned v ∧ SliceE w' w1.heap.size v (roomL L key) ∧ Below w1.heap.size w1 w') := room_any bm 16 L L key w1 (by omega) hm hrise (fun _ => Iff.rfl) (by omega)
    have B1 : Hid (Below w.heap.size w w1) := hb1
    have hlen : (roomL L key).length ≤ 16 := Nat.le_trans (List.length_filter_le _ _) h16
    clear hm hb1 hrise HY HNo HP KB
    generalize roomL L key = Y at *
    go_wp2_with fail
    refine KR.out.mono ?_
    rintro e w2 ⟨v2, rfl, hs2, hb2⟩
    have B2 : Hid (Below w.heap.size w w2) := B1.out.trans (hb2.mono B1.out.size)
    have hz2 : w.heap.size ≤ w2.heap.size := B2.out.size
    obtain ⟨⟨p, cap, rfl, hg⟩, -⟩ := hs2
    have HG : Hid (0 < Y.length → ∃ g, p = some ⟨g, 0, none⟩ ∧ g < w2.heap.size ∧ ∀ j, j < Y.length → ∀ o, o < 3 → w2.cell? ⟨g, j * 3 + o, none⟩ = some (enC (atE Y j) o)) := fun h0 => by
      obtain ⟨g, e, -, hgw, hc⟩ := hg h0
      exact ⟨g, e, hgw, fun j hj o ho => (hc j hj o ho).1⟩
    clear hg hb2 KR B1
    generalize hF : nameTo Y = F at *
    clear hF
    go_wp2
    go_loopw [7, 22] (fun a i wr => ∃ (k : Nat), k ≤ Y.length ∧ i = .int .i64 k ∧ Hid (wr.ownsRow w2.heap.size 9 1 a (F k).length (strCells (F k))) ∧ Hid (Below w2.heap.size w2 wr)) (fun _ i _ => Y.length - (intOf i).toNat)
    case atStart => exact ⟨0, Nat.zero_le _, rfl, by show World.ownsRow _ _ _ _ _ _ _; rw [HN0.out]; exact World.ownsRow_nil _ _ _ _, Below.refl _ _⟩
    case round =>
      obtain ⟨k, hk, rfl, HO, HB⟩ := hrel
      have hws : w2.heap.size ≤ wr.heap.size := HB.out.size
      have hfl : (F k).length ≤ 16 := by rw [HNL.out k hk]; omega
      by_cases hlt : k < Y.length
      · obtain ⟨g, rfl, hgw, hc⟩ := HG.out (by omega)
        have k0 : (0 : Int) ≤ k := by omega
        have k1 : (k : Int) < Y.length := by omega
        have c0 : wr.cell? ⟨g, k * 3, none⟩ = some (.string (atE Y k).ke) := by rw [(bcell HB.out).1 _ _ hgw]; exact hc k hlt 0 (by omega)
        have c1 : wr.cell? ⟨g, k * 3 + 1, none⟩ = some (.string (atE Y k).na) := by rw [(bcell HB.out).1 _ _ hgw]; exact hc k hlt 1 (by omega)
        have c2 : wr.cell? ⟨g, k * 3 + 2, none⟩ = some (.string (atE Y k).va) := by rw [(bcell HB.out).1 _ _ hgw]; exact hc k hlt 2 (by omega)
        have HFS : Hid (F (k + 1) = F k ++ [(atE Y k).na]) := HNS.out k hlt
        clear hc
        generalize atE Y k = y at *
        obtain ⟨ke, na, va⟩ := y
        dsimp only at *
        go_wp2_with (at_builtin; go_must (refine wpList_append_own _ rfl _ _ 33 rfl w2.heap.size 9 i0 (.string ⟨#[]⟩) 1 16 Try.underlying33 hi hy0 hy1 hy2 rfl (by decide) _ _ _ rfl ((HO.out.alloc _).alloc _) ⟨wr.heap.size + 1, 0, none⟩ 1 1 [.string na] rfl rfl (by simpa using cell_one_new (wr.alloc (.cells #[.string ke, .string na, .string va] 41)) _ _) (by intro u hu; simp at hu; subst hu; rfl) (by unfold maxLen; omega) (by omega) (by simp; omega) ?_))
        intro v4 w4 ho4 hg4 _
        rw [strCells_snoc] at ho4
        have G1 : Hid (w4.ownsRow w2.heap.size 9 1 v4 (F k ++ [na]).length (strCells (F k ++ [na]))) := by show World.ownsRow _ _ _ _ _ _ _; simpa using ho4
        have G2 : Hid (Below w2.heap.size w2 w4) := ((HB.out.alloc hws _).alloc (by simp; omega) _).grown hg4 (by simp; omega) (fun j hj => (HO.out.lt j hj).1)
        clear ho4 hg4
        go_wp2
        go_roundw
        case rel => exact ⟨k + 1, by omega, by go_num, by rw [HFS.out]; exact G1, G2⟩
        case measure => simp [intOf]; omega
      · obtain rfl : k = Y.length := by omega
        go_wp2
        go_ret
        exact ⟨_, rfl, by rw [HYZ.out]; exact (slice_of_own HO.out).mono hz2, B2.out.trans (HB.out.mono hz2)⟩
  · have HZ : Hid (Z = []) := HNo.out rfl
    go_wp2
    go_ret
    exact ⟨_, rfl, by rw [HZ.out]; exact sliceS_none _ _ _, hb1⟩
end Go.Proofs.Ytimmoclemcnhnaa

/- The laws' markEntryS and heldEntryS over slices of entrys. Written by rowsmark.py. -/
namespace Go.Proofs.Ytimmoclemcnhnaa
open Go.RowKit

/-- the mark of a cell, of one whose first number is z -/
def markEnZ (z o : Nat) : Value := if o = 0 then .string (markT (z + 0)) else if o = 1 then .string (markT (z + 1)) else .string (markT (z + 2))
def markEnC (q j o : Nat) : Value := markEnZ (q + j * 3) o
def markedE (f : Nat → Nat → Value) (q k j o : Nat) : Value := if j < k then markEnC q j o else f j o
theorem SliceR.atEn {w : World} {B n m g cap : Nat} {f : Nat → Nat → Value} (hs : SliceR w B 3 (.slice (some ⟨g, 0, none⟩) m cap) n f) (k : Nat) (hk : k < n) : ∀ o, o < 3 → w.cell? ⟨g, k * 3 + o, none⟩ = some (f k o) ∧ w.frozen? ⟨g, k * 3 + o, none⟩ = false := by
  obtain ⟨p', cap', e, hh⟩ := hs
  injection e with e1
  obtain ⟨g', e2, -, -, hc⟩ := hh (by omega)
  rw [e2] at e1
  injection e1 with e1
  injection e1 with e1
  subst e1
  exact hc k hk
set_option maxRecDepth 10000 in
set_option maxHeartbeats 8000000 in
theorem markEntryS_any (a : Value) (n B q : Nat) (f : Nat → Nat → Value) (w : World) (ha : SliceR w B 3 a n f) (hn : n ≤ 1048576) (hq : 0 < q) (hq2 : q ≤ 20971520) :
    Calls Try.prog 14 #[a, .int .i64 (q : Int)] w fun e w' => e = .returned (.int .i64 ((q + n * 3 : Nat) : Int)) ∧ SliceR w' B 3 a n (markEnC q) ∧ (∀ G, (0 < n → a.ownBlock = some G) → w.grownBy w' (some G)) := by
  have HA : Hid (SliceR w B 3 a n f) := ha
  obtain ⟨p, cap, rfl, h1⟩ := ha
  have HG : Hid (0 < n → ∃ g, p = some ⟨g, 0, none⟩ ∧ B ≤ g ∧ g < w.heap.size) := fun h => by
    obtain ⟨g, e, h2, h3, -⟩ := h1 h
    exact ⟨g, e, h2, h3⟩
  clear h1
  have HM : Hid (∀ (m : Nat) (W : World), 0 < m → m ≤ 9223372036854775807 → Calls Try.prog 39 #[.int .i64 (m : Int)] W fun e w' => e = .returned (.string (markT m)) ∧ Below W.heap.size W w') := fun m W h1 h2 => markText_any m W h1 h2
  go_enter Try.func14, Try.ntmps14
  go_wp2
  go_loopw [1, 5] (fun kk i wr => ∃ k : Nat, k ≤ n ∧ i = .int .i64 k ∧ kk = .int .i64 ((q + k * 3 : Nat) : Int) ∧ Hid (SliceR wr B 3 (.slice p n cap) n (markedE f q k)) ∧ Hid (∀ G, (0 < n → (Value.slice p n cap).ownBlock = some G) → w.grownBy wr (some G))) (fun _ i _ => n - (intOf i).toNat)
  case atStart => exact ⟨0, by omega, rfl, by go_num, HA, fun _ _ => ⟨rfl, rfl, rfl, Nat.le_refl _, fun _ _ _ => rfl⟩⟩
  case round =>
    obtain ⟨k, hk, rfl, rfl, HR, HB⟩ := hrel
    by_cases hlt : k < n
    · obtain ⟨g, rfl, hBg, hgw⟩ := HG.out (by omega)
      have k0 : (0 : Int) ≤ k := by omega
      have k1 : (k : Int) < n := by omega
      have B0 : Hid (w.grownBy wr (some g)) := HB.out g (fun _ => rfl)
      have hzb : q + k * 3 ≤ 50000000 := by omega
      have hz0 : 0 < q + k * 3 := by omega
      have HEnd : Hid (∀ w', SliceR w' B 3 (.slice (some ⟨g, 0, none⟩) n cap) n (fun j o => if j = k then markEnZ (q + k * 3) o else markedE f q k j o) → SliceR w' B 3 (.slice (some ⟨g, 0, none⟩) n cap) n (markedE f q (k + 1))) := fun w' h => SliceR.congr h (fun j hj o ho => by
        unfold markedE markEnC
        by_cases e : j = k
        · subst e; rw [if_pos rfl, if_pos (by omega)]
        · rw [if_neg e]
          by_cases h : j < k
          · rw [if_pos h, if_pos (by omega)]
          · rw [if_neg h, if_neg (by omega)])
      have hnx : ((q + k * 3 : Nat) : Int) + 3 = ((q + (k + 1) * 3 : Nat) : Int) := by omega
      have HNX : Hid (((q + k * 3 : Nat) : Int) + 3 = ((q + (k + 1) * 3 : Nat) : Int)) := hnx
      clear hnx
      generalize markedE f q k = fm at *
      generalize q + k * 3 = zn at *
      have HN0 : Hid (∀ W, Calls Try.prog 39 #[.int .i64 ((zn : Int))] W fun e w' => e = .returned (.string (markT (zn + 0))) ∧ Below W.heap.size W w') := fun W => by
        have h := HM.out (zn + 0) W (by omega) (by omega)
        have e : ((zn + 0 : Nat) : Int) = (zn : Int) := by omega
        rw [e] at h; exact h
      have HN1 : Hid (∀ W, Calls Try.prog 39 #[.int .i64 ((zn : Int) + 1)] W fun e w' => e = .returned (.string (markT (zn + 1))) ∧ Below W.heap.size W w') := fun W => by
        have h := HM.out (zn + 1) W (by omega) (by omega)
        have e : ((zn + 1 : Nat) : Int) = (zn : Int) + 1 := by omega
        rw [e] at h; exact h
      have HN2 : Hid (∀ W, Calls Try.prog 39 #[.int .i64 ((zn : Int) + 1 + 1)] W fun e w' => e = .returned (.string (markT (zn + 2))) ∧ Below W.heap.size W w') := fun W => by
        have h := HM.out (zn + 2) W (by omega) (by omega)
        have e : ((zn + 2 : Nat) : Int) = (zn : Int) + 1 + 1 := by omega
        rw [e] at h; exact h
      have X0 : Hid (SliceR wr B 3 (.slice (some ⟨g, 0, none⟩) n cap) n fm) := HR
      clear HM HR HB
      go_wp2_with fail
      refine (HN0.out _).mono ?_
      rintro e u1 ⟨rfl, hb1⟩
      have S1 : Hid (SliceR u1 B 3 (.slice (some ⟨g, 0, none⟩) n cap) n fm) := SliceR.below (X0.out) hb1
      have G1 : Hid (w.grownBy u1 (some g)) := grownG_below (B0.out) hb1
      clear hb1
      have hx0 := (SliceR.atEn S1.out k hlt 0 (by omega)).1
      have hf0 := (SliceR.atEn S1.out k hlt 0 (by omega)).2
      rw [Nat.add_zero] at hx0 hf0
      generalize fm k 0 = y0 at hx0
      go_wp2_with fail
      refine (HN1.out _).mono ?_
      rintro e u2 ⟨rfl, hb2⟩
      have S2 : Hid (SliceR u2 B 3 (.slice (some ⟨g, 0, none⟩) n cap) n (updR fm k 0 (.string (markT (zn + 0))))) := SliceR.below (SliceR.set (S1.out) k 0 hlt (by omega) (.string (markT (zn + 0)))) hb2
      have G2 : Hid (w.grownBy u2 (some g)) := grownG_below (grownG_set (G1.out) (k * 3 + 0) (.string (markT (zn + 0)))) hb2
      clear hb2 hx0 hf0
      have hx1 := (SliceR.atEn S2.out k hlt 1 (by omega)).1
      have hf1 := (SliceR.atEn S2.out k hlt 1 (by omega)).2
      generalize (updR fm k 0 (.string (markT (zn + 0)))) k 1 = y1 at hx1
      go_wp2_with fail
      refine (HN2.out _).mono ?_
      rintro e u3 ⟨rfl, hb3⟩
      have S3 : Hid (SliceR u3 B 3 (.slice (some ⟨g, 0, none⟩) n cap) n (updR (updR fm k 0 (.string (markT (zn + 0)))) k 1 (.string (markT (zn + 1))))) := SliceR.below (SliceR.set (S2.out) k 1 hlt (by omega) (.string (markT (zn + 1)))) hb3
      have G3 : Hid (w.grownBy u3 (some g)) := grownG_below (grownG_set (G2.out) (k * 3 + 1) (.string (markT (zn + 1)))) hb3
      clear hb3 hx1 hf1
      have hx2 := (SliceR.atEn S3.out k hlt 2 (by omega)).1
      have hf2 := (SliceR.atEn S3.out k hlt 2 (by omega)).2
      generalize (updR (updR fm k 0 (.string (markT (zn + 0)))) k 1 (.string (markT (zn + 1)))) k 2 = y2 at hx2
      go_wp2
      go_roundw
      case rel =>
        refine ⟨k + 1, by omega, by go_num, val_int (by have := HNX.out; omega), ?_, ?_⟩
        · refine HEnd.out _ (SliceR.congr (SliceR.set (S3.out) k 2 hlt (by omega) (.string (markT (zn + 2)))) (fun j hj o ho => ?_))
          by_cases e : j = k
          · subst e
            rw [if_pos rfl]
            match o, ho with
            | 0, _ => simp [updR, markEnZ]
            | 1, _ => simp [updR, markEnZ]
            | 2, _ => simp [updR, markEnZ]
          · simp [updR, e]
        · intro G hG
          obtain rfl : g = G := Option.some.inj (hG (by omega))
          exact grownG_set (G3.out) (k * 3 + 2) (.string (markT (zn + 2)))
      case measure => simp [intOf]; omega
    · obtain rfl : k = n := by omega
      have HS : Hid (SliceR wr B 3 (.slice p k cap) k (markEnC q)) := SliceR.congr HR.out (fun j hj o ho => by unfold markedE; rw [if_pos hj])
      go_wp2
      go_ret
      exact ⟨rfl, HS.out, HB.out⟩
set_option maxRecDepth 10000 in
set_option maxHeartbeats 8000000 in
theorem heldEntryS_any (a : Value) (n B q : Nat) (w : World) (ha : SliceR w B 3 a n (markEnC q)) (hn : n ≤ 1048576) (hq : 0 < q) (hq2 : q ≤ 20971520) :
    Calls Try.prog 15 #[a, .int .i64 (q : Int)] w fun e w' => e = .returned (.int .i64 ((q + n * 3 : Nat) : Int)) ∧ Below w.heap.size w w' := by
  obtain ⟨p, cap, rfl, h1⟩ := ha
  have HG : Hid (0 < n → ∃ g, p = some ⟨g, 0, none⟩ ∧ B ≤ g ∧ g < w.heap.size ∧ ∀ j, j < n → ∀ o, o < 3 → w.cell? ⟨g, j * 3 + o, none⟩ = some (markEnC q j o) ∧ w.frozen? ⟨g, j * 3 + o, none⟩ = false) := h1
  clear h1
  have HM : Hid (∀ (m : Nat) (W : World), 0 < m → m ≤ 9223372036854775807 → Calls Try.prog 39 #[.int .i64 (m : Int)] W fun e w' => e = .returned (.string (markT m)) ∧ Below W.heap.size W w') := fun m W h1 h2 => markText_any m W h1 h2
  go_enter Try.func15, Try.ntmps15
  go_wp2
  go_loopw [1, 4, 5] (fun kk r i wr => ∃ k : Nat, k ≤ n ∧ i = .int .i64 k ∧ kk = .int .i64 ((q + k * 3 : Nat) : Int) ∧ Hid (Below w.heap.size w wr)) (fun _ _ i _ => n - (intOf i).toNat)
  case atStart => exact ⟨0, by omega, rfl, by go_num, Below.refl _ _⟩
  case round =>
    obtain ⟨k, hk, rfl, rfl, HB⟩ := hrel
    by_cases hlt : k < n
    · obtain ⟨g, rfl, -, hg, hc⟩ := HG.out (by omega)
      have k0 : (0 : Int) ≤ k := by omega
      have k1 : (k : Int) < n := by omega
      have hgr : g < wr.heap.size := Nat.lt_of_lt_of_le hg HB.out.size
      have hzb : q + k * 3 ≤ 50000000 := by omega
      have hz0 : 0 < q + k * 3 := by omega
      have hx : ∀ o, o < 3 → wr.cell? ⟨g, k * 3 + o, none⟩ = some (markEnZ (q + k * 3) o) := fun o ho => by rw [(bcell HB.out).1 _ _ hg]; exact (hc k hlt o ho).1
      have HNX : Hid (((q + k * 3 : Nat) : Int) + 3 = ((q + (k + 1) * 3 : Nat) : Int)) := by show _ = _; omega
      clear hc
      generalize q + k * 3 = zn at *
      have c0 : wr.cell? ⟨g, k * 3, none⟩ = some (.string (markT (zn + 0))) := hx 0 (by omega)
      have c1 : wr.cell? ⟨g, k * 3 + 1, none⟩ = some (.string (markT (zn + 1))) := hx 1 (by omega)
      have c2 : wr.cell? ⟨g, k * 3 + 2, none⟩ = some (.string (markT (zn + 2))) := hx 2 (by omega)
      have HN0 : Hid (∀ W, Calls Try.prog 39 #[.int .i64 ((zn : Int))] W fun e w' => e = .returned (.string (markT (zn + 0))) ∧ Below W.heap.size W w') := fun W => by
        have h := HM.out (zn + 0) W (by omega) (by omega)
        have e : ((zn + 0 : Nat) : Int) = (zn : Int) := by omega
        rw [e] at h; exact h
      have HN1 : Hid (∀ W, Calls Try.prog 39 #[.int .i64 ((zn : Int) + 1)] W fun e w' => e = .returned (.string (markT (zn + 1))) ∧ Below W.heap.size W w') := fun W => by
        have h := HM.out (zn + 1) W (by omega) (by omega)
        have e : ((zn + 1 : Nat) : Int) = (zn : Int) + 1 := by omega
        rw [e] at h; exact h
      have HN2 : Hid (∀ W, Calls Try.prog 39 #[.int .i64 ((zn : Int) + 1 + 1)] W fun e w' => e = .returned (.string (markT (zn + 2))) ∧ Below W.heap.size W w') := fun W => by
        have h := HM.out (zn + 2) W (by omega) (by omega)
        have e : ((zn + 2 : Nat) : Int) = (zn : Int) + 1 + 1 := by omega
        rw [e] at h; exact h
      generalize markT (zn + 0) = t0 at *
      generalize markT (zn + 1) = t1 at *
      generalize markT (zn + 2) = t2 at *
      clear hx HM
      go_wp2_with fail
      go_region_held3 (fun w' => w'.cell? ⟨g, k * 3, none⟩ = some (.string t0) ∧ w'.cell? ⟨g, k * 3 + 1, none⟩ = some (.string t1) ∧ w'.cell? ⟨g, k * 3 + 2, none⟩ = some (.string t2)) (go_keep)
        (first | (go_at_call 39; refine (HN0.out _).mono ?_; rintro e u1 ⟨rfl, hb1⟩; have A1 : Below wr.heap.size wr u1 := (Below.drew (Below.refl _ _)).trans hb1; have g1 : g < u1.heap.size := Nat.lt_of_lt_of_le hgr A1.size; have E1 : Hid (Below w.heap.size w u1) := HB.out.trans (A1.mono HB.out.size); have d1_0 : u1.cell? ⟨g, k * 3, none⟩ = some (.string t0) := ((bcell A1).1 _ _ hgr).trans c0; have d1_1 : u1.cell? ⟨g, k * 3 + 1, none⟩ = some (.string t1) := ((bcell A1).1 _ _ hgr).trans c1; have d1_2 : u1.cell? ⟨g, k * 3 + 2, none⟩ = some (.string t2) := ((bcell A1).1 _ _ hgr).trans c2))
      clear hb1 A1 c0 c1 c2
      go_wp2_with fail
      go_region_held3 (fun w' => w'.cell? ⟨g, k * 3 + 1, none⟩ = some (.string t1) ∧ w'.cell? ⟨g, k * 3 + 2, none⟩ = some (.string t2)) (go_keep)
        (first | (go_at_call 39; refine (HN1.out _).mono ?_; rintro e u2 ⟨rfl, hb2⟩; have A2 : Below u1.heap.size u1 u2 := (Below.drew (Below.refl _ _)).trans hb2; have g2 : g < u2.heap.size := Nat.lt_of_lt_of_le g1 A2.size; have E2 : Hid (Below w.heap.size w u2) := E1.out.trans (A2.mono E1.out.size); have d2_1 : u2.cell? ⟨g, k * 3 + 1, none⟩ = some (.string t1) := ((bcell A2).1 _ _ g1).trans d1_1; have d2_2 : u2.cell? ⟨g, k * 3 + 2, none⟩ = some (.string t2) := ((bcell A2).1 _ _ g1).trans d1_2))
      clear hb2 A2 d1_0 d1_1 d1_2
      go_wp2_with fail
      go_region_held3 (fun w' => w'.cell? ⟨g, k * 3 + 2, none⟩ = some (.string t2)) (go_keep)
        (first | (go_at_call 39; refine (HN2.out _).mono ?_; rintro e u3 ⟨rfl, hb3⟩; have A3 : Below u2.heap.size u2 u3 := (Below.drew (Below.refl _ _)).trans hb3; have g3 : g < u3.heap.size := Nat.lt_of_lt_of_le g2 A3.size; have E3 : Hid (Below w.heap.size w u3) := E2.out.trans (A3.mono E2.out.size); have d3_2 : u3.cell? ⟨g, k * 3 + 2, none⟩ = some (.string t2) := ((bcell A3).1 _ _ g2).trans d2_2))
      clear hb3 A3 d2_1 d2_2
      go_wp2
      go_roundw
      case rel => exact ⟨k + 1, by omega, by go_num, val_int (by have := HNX.out; omega), E3⟩
      case measure => simp [intOf]; omega
    · obtain rfl : k = n := by omega
      go_wp2
      go_ret
      exact ⟨rfl, HB.out⟩
end Go.Proofs.Ytimmoclemcnhnaa

/- Slices of entrys while others are marked. -/
namespace Go.Proofs.Ytimmoclemcnhnaa
open Go.RowKit

theorem SliceE.keepG {w w' : World} {B G : Nat} {v : Value} {L : List En} (h : SliceE w B v L) (hg : w.grownBy w' (some G)) (hne : 0 < L.length → ∃ g, v.ownBlock = some g ∧ g ≠ G) : SliceE w' B v L := ⟨h.1.keepG hg hne, h.2⟩
theorem markE_call (a : Value) (L : List En) (B : Nat) (w : World) (ha : SliceE w B a L) (hB : B ≤ w.heap.size) (hn : L.length ≤ 1048576) :
    Calls Try.prog 14 #[a, .int .i64 1] w fun e w' => e = .returned (.int .i64 ((1 + L.length * 3 : Nat) : Int)) ∧ SliceR w' B 3 a L.length (markEnC 1) ∧ ∃ G, B ≤ G ∧ (0 < L.length → a.ownBlock = some G) ∧ (¬ 0 < L.length → w.heap.size ≤ G) ∧ w.grownBy w' (some G) := by
  refine (markEntryS_any a L.length B 1 _ w ha.1 hn (by decide) (by decide)).mono ?_
  rintro e w' ⟨rfl, h2, h3⟩
  refine ⟨rfl, h2, ?_⟩
  by_cases h0 : 0 < L.length
  · obtain ⟨g, e, hBg, -⟩ := ha.1.place h0
    exact ⟨g, hBg, fun _ => e, fun h => absurd h0 h, h3 g (fun _ => e)⟩
  · exact ⟨w.heap.size, hB, fun h => absurd h h0, fun _ => Nat.le_refl _, h3 _ (fun h => absurd h h0)⟩
end Go.Proofs.Ytimmoclemcnhnaa

/- The law FnExactAreaRight, walked. -/
namespace Go.Proofs.Ytimmoclemcnhnaa
open Go.RowKit

/-- the texts of entries are no longer than what is asked -/
def szE (L : List En) : Prop := ∀ i, i < L.length → (atE L i).ke.size + (atE L i).na.size + (atE L i).va.size ≤ 1048576
set_option maxRecDepth 10000 in
set_option maxHeartbeats 4000000 in
theorem lawAreaRight_any (a : Option Addr) (cap : Nat) (L : List En) (w : World) (hr : EnRow w a L) (hn : L.length ≤ maxLen) :
    Calls Try.prog 3 #[.slice a L.length cap] w fun e w' => e = .returned (.bool true) ∧ Below w.heap.size w w' := by
  have HR : Hid (EnRow w a L) := hr
  clear hr
  go_enter Try.func3, Try.ntmps3
  go_wp2_with fail
  refine (szEntryS_any a cap L 1048576 _ HR.out hn (by decide) (by decide)).mono ?_
  rintro e w0 ⟨⟨r, rfl, hr⟩, hb0⟩
  have B0 : Hid (Below w.heap.size w w0) := hb0
  clear hb0
  rcases hr with hr | ⟨r0, r1, hl, hf⟩
  · go_wp2
    go_ret
    exact ⟨rfl, B0.out⟩
  have q : decide (r < 0) = false := by rw [decide_eq_false_iff_not]; omega
  have HF : Hid (szE L) := hf
  clear hf r0 r1
  go_wp2_with fail
  refine (toEntryS_any a cap L _ (HR.out.below B0.out) hl).mono ?_
  rintro e w1 ⟨v1, rfl, s1, hb1⟩
  have B1 : Hid (Below w.heap.size w w1) := B0.out.trans (hb1.mono B0.out.size)
  have KS : Hid (Calls Try.prog 8 #[v1] w1 fun e w' => e = .returned (.bool (areaB L)) ∧ Below w1.heap.size w1 w') := specArea_any v1 L _ w1 s1 hl (fun i hi => by have := HF.out i hi; omega)
  have KI : Hid (∀ (v : Value) (B : Nat) (W : World), Below w.heap.size w W → SliceE W B v L → Calls Try.prog 10 #[v] W fun e w' => e = .returned (.bool (areaB L)) ∧ Below W.heap.size W w') := fun v B W _ b => areaRight_any v L B W b hl (fun i hi => by have := HF.out i hi; omega)
  clear s1 hb1 HF
  generalize areaB L = d at *
  go_wp2_with fail
  refine KS.out.mono ?_
  rintro e w2 ⟨rfl, hb2⟩
  have B2 : Hid (Below w.heap.size w w2) := B1.out.trans (hb2.mono B1.out.size)
  clear hb2 KS
  go_wp2_with fail
  refine (toEntryS_any a cap L _ (HR.out.below B2.out) hl).mono ?_
  rintro e w4 ⟨v4, rfl, s4, hb4⟩
  have B4 : Hid (Below w.heap.size w w4) := B2.out.trans (hb4.mono B2.out.size)
  have S4 : Hid (SliceE w4 w2.heap.size v4 L) := s4
  clear hb4 s4
  go_wp2_with fail
  refine (KI.out v4 _ w4 B4.out S4.out).mono ?_
  rintro e w5 ⟨rfl, hb5⟩
  have B5 : Hid (Below w.heap.size w w5) := B4.out.trans (hb5.mono B4.out.size)
  have S5 : Hid (SliceE w5 w2.heap.size v4 L) := S4.out.below hb5
  clear hb5
  cases d
  all_goals
    go_wp2_with fail
    refine (toEntryS_any a cap L _ (HR.out.below B5.out) hl).mono ?_
    rintro e w7 ⟨v7, rfl, s7, hb7⟩
    have S7 := S5.out.below hb7
    have B7 : Hid (Below w.heap.size w w7) := B5.out.trans (hb7.mono B5.out.size)
    clear hb7
    go_wp2_with fail
    refine (eqEntryS_any v4 v7 L _ _ _ S7 s7 hl).mono ?_
    rintro e w8 ⟨rfl, hb8⟩
    go_wp2
    go_ret
    exact ⟨rfl, B7.out.trans (hb8.mono B7.out.size)⟩
end Go.Proofs.Ytimmoclemcnhnaa

/- The law FnExactAreaNames, walked. Written by lawcleared.py. -/
namespace Go.Proofs.Ytimmoclemcnhnaa
open Go.RowKit

theorem namesL_len (L : List En) (key : ByteArray) : (namesL L key).length ≤ L.length := by
  unfold namesL roomL
  split
  · rw [List.length_map]; exact List.length_filter_le _ _
  · exact Nat.zero_le _
/-- a slice of just these texts -/
def SliceN (w : World) (B : Nat) (v : Value) (Z : List ByteArray) : Prop := SliceS w B v Z.length (atL Z)
theorem SliceN.below {w w' : World} {B : Nat} {v : Value} {Z : List ByteArray} (h : SliceN w B v Z) (hb : Below w.heap.size w w') : SliceN w' B v Z := SliceS.below h hb
theorem SliceN.place {w : World} {B : Nat} {v : Value} {Z : List ByteArray} (h : SliceN w B v Z) : 0 < Z.length → ∃ g, v.ownBlock = some g ∧ B ≤ g ∧ g < w.heap.size := by
  obtain ⟨p, cap, rfl, h⟩ := h
  intro hn
  obtain ⟨g, rfl, hB, hg, -⟩ := h hn
  exact ⟨g, rfl, hB, hg⟩
theorem SliceN.keepG {w w' : World} {B G : Nat} {v : Value} {Z : List ByteArray} (h : SliceN w B v Z) (hg : w.grownBy w' (some G)) (hne : 0 < Z.length → ∃ g, v.ownBlock = some g ∧ g ≠ G) : SliceN w' B v Z := by
  obtain ⟨p, cap, rfl, h⟩ := h
  refine ⟨p, cap, rfl, fun hn => ?_⟩
  obtain ⟨g, rfl, hB, hgw, hc⟩ := h hn
  obtain ⟨g', e, hn'⟩ := hne hn
  obtain rfl : g = g' := Option.some.inj e
  have hb : w'.heap[g]? = w.heap[g]? := hg.block g hgw (fun e => hn' (Option.some.inj e))
  refine ⟨g, rfl, hB, Nat.lt_of_lt_of_le hgw hg.size, fun j hj => ⟨?_, ?_⟩⟩
  · rw [World.cell?_of_block (a := ⟨g, j, none⟩) hb]; exact (hc j hj).1
  · rw [World.frozen?_of_block (a := ⟨g, j, none⟩) hb]; exact (hc j hj).2
theorem SliceN.farB {w w' : World} {B B' : Nat} {v : Value} {Z : List ByteArray} (h : SliceN w B v Z) (hb : Below B' w w') (hlt : 0 < Z.length → ∃ g, v.ownBlock = some g ∧ g < B') : SliceN w' B v Z := by
  obtain ⟨p, cap, rfl, h⟩ := h
  refine ⟨p, cap, rfl, fun hn => ?_⟩
  obtain ⟨g, rfl, hB, hgw, hc⟩ := h hn
  obtain ⟨g', e, hn'⟩ := hlt hn
  obtain rfl : g = g' := Option.some.inj e
  refine ⟨g, rfl, hB, Nat.lt_of_lt_of_le hgw hb.size, fun j hj => ⟨?_, ?_⟩⟩
  · rw [hb.cell (p := ⟨g, j, none⟩) hn']; exact (hc j hj).1
  · rw [hb.frozen (p := ⟨g, j, none⟩) hn']; exact (hc j hj).2
theorem eqN_any (a b : Value) (Z : List ByteArray) (B B' : Nat) (w : World) (ha : SliceN w B a Z) (hb : SliceN w B' b Z) (hn : Z.length ≤ 1048576) :
    Calls Try.prog 20 #[a, b] w fun e w' => e = .returned (.bool true) ∧ Below w.heap.size w w' := eqStringS_any a b Z.length B B' (atL Z) w ha hb hn
set_option maxRecDepth 10000 in
set_option maxHeartbeats 4000000 in
theorem lawAreaNames_any (a : Option Addr) (cap : Nat) (L : List En) (key : ByteArray) (w : World) (hr : EnRow w a L) (hn : L.length ≤ maxLen) :
    Calls Try.prog 6 #[.slice a L.length cap, .string key] w fun e w' => e = .returned (.bool true) ∧ Below w.heap.size w w' := by
  have HR : Hid (EnRow w a L) := hr
  clear hr
  by_cases h1 : 1048576 < key.size
  · go_enter Try.func6, Try.ntmps6
    go_wp2
    go_ret
    exact ⟨rfl, Below.refl _ _⟩
  have hk1 : key.size ≤ 1048576 := by omega
  go_enter Try.func6, Try.ntmps6
  go_wp2_with fail
  refine (szEntryS_any a cap L 1048576 _ HR.out hn (by decide) (by decide)).mono ?_
  rintro e w0 ⟨⟨r, rfl, hr⟩, hb0⟩
  have B0 : Hid (Below w.heap.size w w0) := hb0
  clear hb0
  rcases hr with hr | ⟨r0, r1, hl, hf⟩
  · go_wp2
    go_ret
    exact ⟨rfl, B0.out⟩
  have q : decide (r < 0) = false := by rw [decide_eq_false_iff_not]; omega
  have HF : Hid (szE L) := hf
  clear hf r0 r1
  have KT : Hid (∀ W, Below w.heap.size w W → Calls Try.prog 9 #[.slice a L.length cap] W fun e w' => ∃ v, e = .returned v ∧ SliceE w' W.heap.size v L ∧ Below W.heap.size W w') := fun W hb => toEntryS_any a cap L W (HR.out.below hb) hl
  have KS : Hid (∀ (v : Value) (B : Nat) (W : World), SliceE W B v L → Calls Try.prog 18 #[v, .string key] W fun e w' => ∃ v', e = .returned v' ∧ SliceN w' W.heap.size v' (namesL L key) ∧ Below W.heap.size W w') := fun v B W s => specAreaNames_any v L key B W s hl (fun i hi => by have := HF.out i hi; omega)
  have KI : Hid (∀ (v : Value) (B : Nat) (W : World), Below w.heap.size w W → SliceE W B v L → Calls Try.prog 19 #[v, .string key] W fun e w' => ∃ v', e = .returned v' ∧ SliceN w' W.heap.size v' (namesL L key) ∧ Below W.heap.size W w') := fun v B W _ b => areaNames_any v L key B W b hl (fun i hi => by have := HF.out i hi; omega)
  have hZ := namesL_len L key
  clear HF HR
  generalize namesL L key = Z at *
  go_wp2_with fail
  refine (KT.out _ B0.out).mono ?_
  rintro e w1 ⟨v1, rfl, s1, hb1⟩
  have B1 : Hid (Below w.heap.size w w1) := B0.out.trans (hb1.mono B0.out.size)
  have S1 : Hid (SliceE w1 w0.heap.size v1 L) := s1
  clear s1 hb1
  go_wp2_with fail
  refine (KS.out _ _ _ S1.out).mono ?_
  rintro e w2 ⟨vs, rfl, s2, hb2⟩
  have B2 : Hid (Below w.heap.size w w2) := B1.out.trans (hb2.mono B1.out.size)
  have S2 : Hid (SliceN w2 w1.heap.size vs Z) := s2
  have P2 : Hid (0 < Z.length → ∃ g, vs.ownBlock = some g ∧ w1.heap.size ≤ g ∧ g < w2.heap.size) := SliceN.place s2
  clear s2 hb2 S1 KS B1
  go_wp2_with fail
  refine (KT.out _ B2.out).mono ?_
  rintro e w3 ⟨vx, rfl, s3, hb3⟩
  have B3 : Hid (Below w.heap.size w w3) := B2.out.trans (hb3.mono B2.out.size)
  have S2_3 : Hid (SliceN w3 w1.heap.size vs Z) := SliceN.below S2.out hb3
  have S3 : Hid (SliceE w3 w2.heap.size vx L) := s3
  have P3 : Hid (0 < L.length → ∃ g, vx.ownBlock = some g ∧ w2.heap.size ≤ g ∧ g < w3.heap.size) := s3.1.place
  have z23 : w2.heap.size ≤ w3.heap.size := hb3.size
  clear s3 hb3 S2
  go_wp2_with fail
  refine (KI.out _ _ _ B3.out S3.out).mono ?_
  rintro e w4 ⟨vg, rfl, s4, hb4⟩
  have B4 : Hid (Below w.heap.size w w4) := B3.out.trans (hb4.mono B3.out.size)
  have S2_4 : Hid (SliceN w4 w1.heap.size vs Z) := SliceN.below S2_3.out hb4
  have S3_4 : Hid (SliceE w4 w2.heap.size vx L) := S3.out.below hb4
  have S4 : Hid (SliceN w4 w3.heap.size vg Z) := s4
  have P4 : Hid (0 < Z.length → ∃ g, vg.ownBlock = some g ∧ w3.heap.size ≤ g ∧ g < w4.heap.size) := SliceN.place s4
  have z34 : w3.heap.size ≤ w4.heap.size := hb4.size
  clear s4 hb4 S2_3 S3
  go_wp2_with fail
  refine (eqN_any vg vs Z _ _ _ S4.out S2_4.out (by omega)).mono ?_
  rintro e w5 ⟨rfl, hb5⟩
  have B5 : Hid (Below w.heap.size w w5) := B4.out.trans (hb5.mono B4.out.size)
  have S2_5 : Hid (SliceN w5 w1.heap.size vs Z) := SliceN.below S2_4.out hb5
  have S3_5 : Hid (SliceE w5 w2.heap.size vx L) := S3_4.out.below hb5
  have S4_5 : Hid (SliceN w5 w3.heap.size vg Z) := SliceN.below S4.out hb5
  have z45 : w4.heap.size ≤ w5.heap.size := hb5.size
  clear hb5 S2_4 S3_4 S4
  go_wp2_with fail
  refine (KT.out _ B5.out).mono ?_
  rintro e w6 ⟨v6, rfl, s6, hb6⟩
  have B6 : Hid (Below w.heap.size w w6) := B5.out.trans (hb6.mono B5.out.size)
  have S2_6 : Hid (SliceN w6 w1.heap.size vs Z) := SliceN.below S2_5.out hb6
  have S3_6 : Hid (SliceE w6 w2.heap.size vx L) := S3_5.out.below hb6
  have S4_6 : Hid (SliceN w6 w3.heap.size vg Z) := SliceN.below S4_5.out hb6
  have S6 : Hid (SliceE w6 w5.heap.size v6 L) := s6
  have z56 : w5.heap.size ≤ w6.heap.size := hb6.size
  clear hb6 s6 S2_5 S3_5 S4_5
  go_wp2_with fail
  refine (eqEntryS_any vx v6 L _ _ _ S3_6.out S6.out hl).mono ?_
  rintro e w7 ⟨rfl, hb7⟩
  have B7 : Hid (Below w.heap.size w w7) := B6.out.trans (hb7.mono B6.out.size)
  have S2_7 : Hid (SliceN w7 w1.heap.size vs Z) := SliceN.below S2_6.out hb7
  have S3_7 : Hid (SliceE w7 w2.heap.size vx L) := S3_6.out.below hb7
  have S4_7 : Hid (SliceN w7 w3.heap.size vg Z) := SliceN.below S4_6.out hb7
  have z67 : w6.heap.size ≤ w7.heap.size := hb7.size
  clear hb7 S2_6 S3_6 S4_6 S6
  go_wp2_with fail
  refine (markE_call vx L w2.heap.size w7 S3_7.out (by omega) hl).mono ?_
  rintro e w8 ⟨rfl, -, G, hG1, hG2, hG3, hg8⟩
  have S2_8 : Hid (SliceN w8 w1.heap.size vs Z) := SliceN.keepG S2_7.out hg8 (fun h => by obtain ⟨g, e, h1, h2⟩ := P2.out h; exact ⟨g, e, by omega⟩)
  have S4_8 : Hid (SliceN w8 w3.heap.size vg Z) := SliceN.keepG S4_7.out hg8 (fun h => by
    obtain ⟨g, e, h1, h2⟩ := P4.out h
    refine ⟨g, e, ?_⟩
    by_cases h0 : 0 < L.length
    · obtain ⟨g', e', h1', h2'⟩ := P3.out h0
      have e2 := hG2 h0
      rw [e'] at e2
      have := Option.some.inj e2
      omega
    · have := hG3 h0; omega)
  have B8 : Hid (Below w.heap.size w w8) := B7.out.grown hg8 B7.out.size (fun j hj => by have := Option.some.inj hj; have := B2.out.size; omega)
  have z78 : w7.heap.size ≤ w8.heap.size := hg8.size
  have hm0 : decide ((((1 + L.length * 3 : Nat) : Int)) < 0) = false := by rw [decide_eq_false_iff_not]; omega
  clear hg8 hG1 hG2 hG3 S2_7 S3_7 S4_7 P3
  generalize ((1 + L.length * 3 : Nat) : Int) = mL at *
  go_wp2_with fail
  refine (eqN_any vg vs Z _ _ _ S4_8.out S2_8.out (by omega)).mono ?_
  rintro e w9 ⟨rfl, hb9⟩
  have B9 : Hid (Below w.heap.size w w9) := B8.out.trans (hb9.mono B8.out.size)
  have S2_9 : Hid (SliceN w9 w1.heap.size vs Z) := SliceN.below S2_8.out hb9
  have S4_9 : Hid (SliceN w9 w3.heap.size vg Z) := SliceN.below S4_8.out hb9
  have z89 : w8.heap.size ≤ w9.heap.size := hb9.size
  clear hb9 S2_8 S4_8
  go_wp2_with fail
  refine (markStringS_any vg Z.length w3.heap.size 1 _ w9 S4_9.out (by omega) (by decide) (by decide)).mono ?_
  rintro e w10 ⟨rfl, s10, hB10⟩
  have hb10 : Below w3.heap.size w9 w10 := hB10 _ (Nat.le_refl _) (by omega)
  have S2_10 : Hid (SliceN w10 w1.heap.size vs Z) := SliceN.farB S2_9.out hb10 (fun h => by obtain ⟨g, e, h1, h2⟩ := P2.out h; exact ⟨g, e, by omega⟩)
  have S10 : Hid (SliceS w10 w3.heap.size vg Z.length (fun j => markT (1 + j))) := s10
  have B10 : Hid (Below w.heap.size w w10) := B9.out.trans (hb10.mono (by have := B2.out.size; omega))
  have KH : Hid (∀ W, Below w10.heap.size w10 W → Calls Try.prog 22 #[vg, .int .i64 1] W fun e w' => e = .returned (.int .i64 ((1 + Z.length : Nat) : Int)) ∧ Below W.heap.size W w') := fun W hb => heldStringS_any vg Z.length _ 1 W (SliceS.below S10.out hb) (by omega) (by decide) (by decide)
  have hm1 : decide ((((1 + Z.length : Nat) : Int)) < 0) = false := by rw [decide_eq_false_iff_not]; omega
  clear hb10 hB10 S2_9 S4_9 s10 S10 P2 P4
  generalize ((1 + Z.length : Nat) : Int) = mZ at *
  go_wp2_with fail
  refine (KH.out _ (Below.refl _ _)).mono ?_
  rintro e w11 ⟨rfl, hb11⟩
  have B11 : Hid (Below w.heap.size w w11) := B10.out.trans (hb11.mono B10.out.size)
  have A11 : Hid (Below w10.heap.size w10 w11) := hb11
  have S2_11 : Hid (SliceN w11 w1.heap.size vs Z) := SliceN.below S2_10.out hb11
  clear hb11 S2_10
  go_wp2_with fail
  refine (KT.out _ B11.out).mono ?_
  rintro e w12 ⟨v12, rfl, s12, hb12⟩
  have B12 : Hid (Below w.heap.size w w12) := B11.out.trans (hb12.mono B11.out.size)
  have A12 : Hid (Below w10.heap.size w10 w12) := A11.out.trans (hb12.mono A11.out.size)
  have S2_12 : Hid (SliceN w12 w1.heap.size vs Z) := SliceN.below S2_11.out hb12
  have S12 : Hid (SliceE w12 w11.heap.size v12 L) := s12
  clear hb12 s12 S2_11
  go_wp2_with fail
  refine (KI.out _ _ _ B12.out S12.out).mono ?_
  rintro e w13 ⟨vh, rfl, s13, hb13⟩
  have B13 : Hid (Below w.heap.size w w13) := B12.out.trans (hb13.mono B12.out.size)
  have A13 : Hid (Below w10.heap.size w10 w13) := A12.out.trans (hb13.mono A12.out.size)
  have S2_13 : Hid (SliceN w13 w1.heap.size vs Z) := SliceN.below S2_12.out hb13
  have S13 : Hid (SliceN w13 w12.heap.size vh Z) := s13
  clear hb13 s13 S2_12 S12
  go_wp2_with fail
  refine (eqN_any vh vs Z _ _ _ S13.out S2_13.out (by omega)).mono ?_
  rintro e w14 ⟨rfl, hb14⟩
  have B14 : Hid (Below w.heap.size w w14) := B13.out.trans (hb14.mono B13.out.size)
  have A14 : Hid (Below w10.heap.size w10 w14) := A13.out.trans (hb14.mono A13.out.size)
  clear hb14
  go_wp2_with fail
  refine (KH.out _ A14.out).mono ?_
  rintro e w15 ⟨rfl, hb15⟩
  go_wp2
  go_ret
  exact ⟨rfl, B14.out.trans (hb15.mono B14.out.size)⟩
end Go.Proofs.Ytimmoclemcnhnaa

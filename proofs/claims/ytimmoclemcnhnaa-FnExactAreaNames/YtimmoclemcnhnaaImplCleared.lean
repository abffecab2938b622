/- The walks of the program's AreaClear, AreaUsed, AreaNames. -/
import Derived.Test.YtimmoclemcnhnaaImplRooms
import Derived.Test.YtimmoclemcnhnaaSliceKeep
import Derived.Test.YtimmoclemcnhnaaStrsIn
namespace Go.Proofs.Ytimmoclemcnhnaa
open Go.RowKit Go.Maps

theorem SliceE.keepB {w w' : World} {B G : Nat} {v : Value} {L : List En} (h : SliceE w B v L) (hg : w.grownBy w' (some G)) (hne : G < B) : SliceE w' B v L := ⟨h.1.keepG hg (fun h0 => by
  obtain ⟨g, e, hB, -⟩ := h.1.place h0
  exact ⟨g, e, by omega⟩), h.2⟩
theorem keyE_drop {L M M' Y : List En} {k : Nat} (hk : k < Y.length) (h : ∀ x, x ∈ M ↔ x ∈ L ∧ ∀ j, j < k → keyE x ≠ keyE (atE Y j)) (h' : ∀ x, x ∈ M' ↔ x ∈ M ∧ keyE x ≠ keyE (atE Y k)) : ∀ x, x ∈ M' ↔ x ∈ L ∧ ∀ j, j < k + 1 → keyE x ≠ keyE (atE Y j) := by
  intro x
  rw [h' x, h x]
  constructor
  · rintro ⟨⟨h1, h2⟩, h3⟩
    refine ⟨h1, fun j hj => ?_⟩
    by_cases e : j = k
    · subst e; exact h3
    · exact h2 j (by omega)
  · rintro ⟨h1, h2⟩
    exact ⟨⟨h1, fun j hj => h2 j (by omega)⟩, h2 k (by omega)⟩
/-- a book without one entry -/
def lessE (L : List En) (c : En) : List En := L.filter (fun x => !(keyE x).sameKey (keyE c))
theorem lessE_mem (L : List En) (c : En) : ∀ x, x ∈ lessE L c ↔ x ∈ L ∧ keyE x ≠ keyE c := by
  intro x
  unfold lessE
  rw [List.mem_filter]
  constructor
  · rintro ⟨h1, h2⟩
    refine ⟨h1, fun e => ?_⟩
    rw [e, WideAt.sameKey_self (keyE_lit c)] at h2; cases h2
  · rintro ⟨h1, h2⟩
    exact ⟨h1, by rw [Maps.sameKey_ne h2]; rfl⟩
theorem room_small {L : List En} {key : ByteArray} (h : ∀ e, e ∈ L → smallE e) : ∀ j, j < (roomL L key).length → smallE (atE (roomL L key) j) := by
  intro j hj
  rw [atE_get hj]
  exact h _ (List.mem_filter.1 (List.getElem_mem hj)).1
set_option maxRecDepth 10000 in
set_option maxHeartbeats 8000000 in
theorem areaClear_any (v : Value) (L : List En) (key : ByteArray) (B : Nat) (w : World) (hs : SliceE w B v L) (hn : L.length ≤ 1048576) (hz : ∀ i, i < L.length → (atE L i).na.size ≤ 1048576 ∧ (atE L i).va.size ≤ 1048576) :
    Calls Try.prog 13 #[v, .string key] w fun e w' => ∃ v', e = .returned v' ∧ SliceE w' w.heap.size v' (clearedL L key) ∧ Below w.heap.size w w' := by
  have KB : Hid (Calls Try.prog 35 #[v, .string key] w fun e w' => (((areaB L && keyB key) = true ∧ ∃ bm, e = .returned (.tuple #[.map (some bm), .nilIface]) ∧ w.heap.size ≤ bm ∧ BookL w' bm 16 L) ∨ ((areaB L && keyB key) = false ∧ e = .returned (.tuple #[.map none, .iface 61 (.agg #[.int .i64 1])]))) ∧ Below w.heap.size w w') := roomBook_any v L key B w hs hn hz
  have HP : Hid ((areaB L && keyB key) = true → RiseE L ∧ L.length ≤ 16) := fun h => by
    rw [Bool.and_eq_true] at h
    exact ⟨area_rise h.1, (areaB_parts h.1).1⟩
  have HY : Hid ((areaB L && keyB key) = true → clearedL L key = otherL L key) := fun h => by unfold clearedL; rw [if_pos h]
  have HNo : Hid ((areaB L && keyB key) = false → clearedL L key = []) := fun h => by unfold clearedL; rw [if_neg (by rw [h]; decide)]
  clear hs hz
  generalize clearedL L key = Z at *
  generalize (areaB L && keyB key) = ok at *
  go_enter Try.func13, Try.ntmps13
  go_wp2_with fail
  refine KB.out.mono ?_
  rintro e w1 ⟨⟨rfl, bm, rfl, hbm, hm⟩ | ⟨rfl, rfl⟩, hb1⟩
  · obtain ⟨hrise, h16⟩ := HP.out rfl
    have HYZ : Hid (Z = otherL L key) := HY.out rfl
    have hsm := hm.small
    have hbmw := hm.lt
    have KR : Hid (Calls Try.prog 36 #[.map (some bm), .string key] w1 fun e w' => ∃ v, e = .returned v ∧ SliceE w' w1.heap.size v (roomL L key) ∧ Below w1.heap.size w1 w') := room_any bm 16 L L key w1 (by omega) hm hrise (fun _ => Iff.rfl) (by omega)
    have HYS : Hid (∀ j, j < (roomL L key).length → smallE (atE (roomL L key) j)) := room_small hsm
    have HFin : Hid (∀ (M : List En) (W : World), BookL W bm 16 M → (∀ x, x ∈ M ↔ x ∈ L ∧ ∀ j, j < (roomL L key).length → keyE x ≠ keyE (atE (roomL L key) j)) → Calls Try.prog 38 #[.map (some bm)] W fun e w' => ∃ v, e = .returned v ∧ SliceE w' W.heap.size v Z ∧ Below W.heap.size W w') := fun M W h1 h2 => by
      rw [HYZ.out]
      exact list_any bm 16 M (otherL L key) W (by omega) h1 (rise_filter hrise _) (others_of hsm h2)
    have HM : Hid (BookL w1 bm 16 L) := hm
    have B1 : Hid (Below w.heap.size w w1) := hb1
    have hlen : (roomL L key).length ≤ 16 := Nat.le_trans (List.length_filter_le _ _) h16
    clear hm hb1 hsm hrise HY HNo HP KB HYZ
    generalize roomL L key = Y at *
    go_wp2_with fail
    refine KR.out.mono ?_
    rintro e w2 ⟨v2, rfl, hs2, hb2⟩
    have S2 : Hid (SliceE w2 w1.heap.size v2 Y) := hs2
    have M2 : Hid (BookL w2 bm 16 L) := HM.out.below hb2
    have B2 : Hid (Below w.heap.size w w2) := B1.out.trans (hb2.mono B1.out.size)
    obtain ⟨p, cap, hv2⟩ : ∃ p cap, v2 = .slice p Y.length cap := by obtain ⟨⟨p, cap, e, -⟩, -⟩ := hs2; exact ⟨p, cap, e⟩
    clear hs2 hb2 KR HM B1
    subst hv2
    go_wp2
    go_loopw [21] (fun i wr => ∃ (k : Nat) (M : List En), k ≤ Y.length ∧ i = .int .i64 k ∧ Hid (BookL wr bm 16 M) ∧ Hid (∀ x, x ∈ M ↔ x ∈ L ∧ ∀ j, j < k → keyE x ≠ keyE (atE Y j)) ∧ Hid (SliceE wr w1.heap.size (.slice p Y.length cap) Y) ∧ Hid (Below w.heap.size w wr)) (fun i _ => Y.length - (intOf i).toNat)
    case atStart => exact ⟨0, L, Nat.zero_le _, rfl, M2, fun x => ⟨fun h => ⟨h, fun j hj => absurd hj (by omega)⟩, fun h => h.1⟩, S2, B2⟩
    case round =>
      obtain ⟨k, M, hk, rfl, HM, HX, HS, HB⟩ := hrel
      have hws : w.heap.size ≤ wr.heap.size := HB.out.size
      by_cases hlt : k < Y.length
      · obtain ⟨⟨p', cap', e', hg⟩, -⟩ := HS.out
        injection e' with e1 _ e3
        subst e1 e3
        obtain ⟨g, rfl, -, hgw, hc⟩ := hg (by omega)
        have k0 : (0 : Int) ≤ k := by omega
        have k1 : (k : Int) < Y.length := by omega
        have c0 : wr.cell? ⟨g, k * 3, none⟩ = some (.string (atE Y k).ke) := (hc k hlt 0 (by omega)).1
        have c1 : wr.cell? ⟨g, k * 3 + 1, none⟩ = some (.string (atE Y k).na) := (hc k hlt 1 (by omega)).1
        have c2 : wr.cell? ⟨g, k * 3 + 2, none⟩ = some (.string (atE Y k).va) := (hc k hlt 2 (by omega)).1
        have hmb := (HM.out.lt)
        have KD : Hid (∀ W, Below wr.heap.size wr W → Calls Try.prog 37 #[.map (some bm), .agg #[.string (atE Y k).ke, .string (atE Y k).na, .string (atE Y k).va]] W fun e w' => e = .returned (.tuple #[]) ∧ BookL w' bm 16 (lessE M (atE Y k)) ∧ W.grownBy w' (some bm)) := fun W hb => (drop_any bm 16 M (atE Y k) W (HM.out.below hb) (HYS.out k hlt)).mono (fun e w' ⟨h1, h2, h3⟩ => ⟨h1, h2 _ (lessE_mem M _), h3⟩)
        have HX1 : Hid (∀ x, x ∈ lessE M (atE Y k) ↔ x ∈ L ∧ ∀ j, j < k + 1 → keyE x ≠ keyE (atE Y j)) := keyE_drop hlt HX.out (lessE_mem M _)
        clear hg hc HX
        have HA : Hid (∀ o, Below wr.heap.size wr (wr.alloc o)) := fun o => (Below.refl _ _).alloc (Nat.le_refl _) _
        generalize lessE M (atE Y k) = M' at *
        generalize atE Y k = y at *
        obtain ⟨ke, na, va⟩ := y
        dsimp only at *
        go_wp2_with fail
        refine (KD.out _ (HA.out _)).mono ?_
        rintro e w3 ⟨rfl, hm3, hg3⟩
        have S3 : Hid (SliceE w3 w1.heap.size (.slice (some ⟨g, 0, none⟩) Y.length cap) Y) := (HS.out.below (HA.out _)).keepB hg3 hbmw
        have B3 : Hid (Below w.heap.size w w3) := (HB.out.trans ((HA.out _).mono hws)).grown hg3 (by simp; omega) (fun j hj => by have := Option.some.inj hj; omega)
        have M3 : Hid (BookL w3 bm 16 M') := hm3
        clear hm3 hg3 KD c0 c1 c2
        go_wp2
        go_roundw
        case rel => exact ⟨k + 1, M', by omega, by go_num, M3, HX1, S3, B3⟩
        case measure => simp [intOf]; omega
      · obtain rfl : k = Y.length := by omega
        go_wp2_with fail
        refine (HFin.out M _ HM.out HX.out).mono ?_
        rintro e w4 ⟨v4, rfl, hs4, hb4⟩
        have S4 : Hid (SliceE w4 w.heap.size v4 Z) := hs4.mono hws
        have B4 : Hid (Below w.heap.size w w4) := HB.out.trans (hb4.mono hws)
        clear hs4 hb4
        go_wp2
        go_ret
        exact ⟨_, rfl, S4.out, B4.out⟩
  · have HZ : Hid (Z = []) := HNo.out rfl
    go_wp2
    go_ret
    exact ⟨_, rfl, by rw [HZ.out]; exact sliceE_none _ _, hb1⟩
end Go.Proofs.Ytimmoclemcnhnaa

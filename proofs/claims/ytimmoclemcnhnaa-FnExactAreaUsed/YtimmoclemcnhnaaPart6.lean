/- 6 of this claim's texts, one behind the other. -/
import Derived.Test.YtimmoclemcnhnaaPart1
import Derived.Lib.Split
import Derived.Test.YtimmoclemcnhnaaPart5
import Derived.Test.YtimmoclemcnhnaaPart2
import Derived.Test.YtimmoclemcnhnaaPart3
/- Slices of structs while others are marked. -/
namespace Go.Proofs.Ytimmoclemcnhnaa
open Go.RowKit

theorem SliceR.place {w : World} {B sz n : Nat} {v : Value} {f : Nat → Nat → Value} (h : SliceR w B sz v n f) : 0 < n → ∃ g, v.ownBlock = some g ∧ B ≤ g ∧ g < w.heap.size := by
  obtain ⟨p, cap, rfl, h⟩ := h
  intro hn
  obtain ⟨g, rfl, hB, hg, -⟩ := h hn
  exact ⟨g, rfl, hB, hg⟩
theorem SliceR.keepG {w w' : World} {B sz n G : Nat} {v : Value} {f : Nat → Nat → Value} (h : SliceR w B sz v n f) (hg : w.grownBy w' (some G)) (hne : 0 < n → ∃ g, v.ownBlock = some g ∧ g ≠ G) : SliceR w' B sz v n f := by
  obtain ⟨p, cap, rfl, h⟩ := h
  refine ⟨p, cap, rfl, fun hn => ?_⟩
  obtain ⟨g, rfl, hB, hgw, hc⟩ := h hn
  obtain ⟨g', e, hn'⟩ := hne hn
  obtain rfl : g = g' := Option.some.inj e
  have hb : w'.heap[g]? = w.heap[g]? := hg.block g hgw (fun e => hn' (Option.some.inj e))
  refine ⟨g, rfl, hB, Nat.lt_of_lt_of_le hgw hg.size, fun j hj o ho => ⟨?_, ?_⟩⟩
  · rw [World.cell?_of_block (a := ⟨g, j * sz + o, none⟩) hb]; exact (hc j hj o ho).1
  · rw [World.frozen?_of_block (a := ⟨g, j * sz + o, none⟩) hb]; exact (hc j hj o ho).2
end Go.Proofs.Ytimmoclemcnhnaa

/- A slice of texts that came in; the laws' szStringS and toStringS over it. -/
namespace Go.Proofs.Ytimmoclemcnhnaa
open Go.RowKit

/-- n texts, f of each place, that a slice leads to -/
def StrRow (w : World) (a : Option Addr) (n : Nat) (f : Nat → ByteArray) : Prop := ∀ i, i < n → ∃ x, a = some x ∧ x.block < w.heap.size ∧ w.cell? (x.add i) = some (.string (f i)) ∧ (f i).size ≤ maxLen
theorem StrRow.below {w w' : World} {a : Option Addr} {n : Nat} {f : Nat → ByteArray} (h : StrRow w a n f) (hb : Below w.heap.size w w') : StrRow w' a n f := by
  intro i hi
  obtain ⟨x, e, hx, hc, hs⟩ := h i hi
  have hxb : (x.add i).block = x.block := by unfold Addr.add; split <;> rfl
  exact ⟨x, e, Nat.lt_of_lt_of_le hx hb.size, by rw [hb.cell (p := x.add i) (by rw [hxb]; exact hx)]; exact hc, hs⟩

theorem infoStr2 : (Try.prog.info? 9).map (fun i => (i.zero, i.size, i.bytes)) = some (some (.string ⟨#[]⟩), 1, 16) := by kernel_rfl
theorem make_strs (w : World) (n : Nat) (hn : n ≤ 1048576) :
    ∃ w', Sem.run Try.prog (Instr.makeSlice 33 (.int .i64 (n : Int)) (.int .i64 (n : Int))) w = .ok (.slice (some ⟨w.heap.size, 0, none⟩) n n) w' ∧ w.heap.size < w'.heap.size ∧
      (∀ j, j < n → w'.cell? ⟨w.heap.size, j, none⟩ = some (.string ⟨#[]⟩) ∧ w'.frozen? ⟨w.heap.size, j, none⟩ = false) ∧ Below w.heap.size w w' := by
  obtain ⟨i, h2, h3, h4, h5⟩ := info_parts infoStr2
  have hrun := run_make (P := Try.prog) w 33 9 i (.string ⟨#[]⟩) Try.underlying33 h2 h3 .i64 .i64 n n (by omega) (Int.le_refl _) (by rw [h5]; omega) (by omega)
  simp only [Int.toNat_natCast, h4, Nat.mul_one] at hrun
  refine ⟨_, hrun, by simp, fun j hj => ⟨?_, by simp⟩, (Below.refl _ _).alloc (Nat.le_refl _) _⟩
  have e : madeCells (Value.string ⟨#[]⟩).cells n = Lib.cellsOf [] n := (Lib.cellsOf_nil n).symm
  rw [e, World.cell?_alloc_new]
  simp [Lib.cellsOf, hj]
  rfl

/-- the first k of f, the others empty -/
def upto (f : Nat → ByteArray) (k j : Nat) : ByteArray := if j < k then f j else ⟨#[]⟩
theorem upto_at (f : Nat → ByteArray) (k : Nat) : upto f (k + 1) k = f k := by unfold upto; rw [if_pos (Nat.lt_succ_self _)]
theorem upto_else (f : Nat → ByteArray) (k j : Nat) (h : ¬ j = k) : upto f (k + 1) j = upto f k j := by
  unfold upto
  by_cases hj : j < k
  · rw [if_pos hj, if_pos (by omega)]
  · rw [if_neg hj, if_neg (by omega)]
theorem upto_all (f : Nat → ByteArray) (n j : Nat) (h : j < n) : upto f n j = f j := by unfold upto; rw [if_pos h]
end Go.Proofs.Ytimmoclemcnhnaa

/- The walks of the program's AreaClear, AreaUsed, AreaNames. -/
namespace Go.Proofs.Ytimmoclemcnhnaa
open Go.RowKit Go.Maps

theorem SliceE.keepB {w w' : World} {B G : Nat} {v : Value} {L : List En} (h : SliceE w B v L) (hg : w.grownBy w' (some G)) (hne : G < B) : SliceE w' B v L := ⟨h.1.keepG hg (fun h0 => by
  obtain ⟨g, e, hB, -⟩ := h.1.place h0
  exact ⟨g, e, by omega⟩), h.2⟩
theorem keyE_drop {L M M' Y : List En} {k : Nat} (hk : k < Y.length) (h : ∀ x, x ∈ M ↔ x ∈ L ∧ ∀ j, j < k → keyE x ≠ keyE (atE Y j)) (h' : ∀ x, x ∈ M' ↔ x ∈ M ∧ keyE x ≠ keyE (atE Y k)) : ∀ x, x ∈ M' ↔ x ∈ L ∧ ∀ j, j < k + 1 → keyE x ≠ keyE (atE Y j) := by
  intro x
  rw [h' x, h x]
  constructor
  · rintro ⟨⟨h1, h2⟩, h3⟩
    refine ⟨h1, fun j hj => ?_⟩
    by_cases e : j = k
    · subst e; exact h3
    · exact h2 j (by omega)
  · rintro ⟨h1, h2⟩
    exact ⟨⟨h1, fun j hj => h2 j (by omega)⟩, h2 k (by omega)⟩
/-- a book without one entry -/
def lessE (L : List En) (c : En) : List En := L.filter (fun x => !(keyE x).sameKey (keyE c))
theorem lessE_mem (L : List En) (c : En) : ∀ x, x ∈ lessE L c ↔ x ∈ L ∧ keyE x ≠ keyE c := by
  intro x
  unfold lessE
  rw [List.mem_filter]
  constructor
  · rintro ⟨h1, h2⟩
    refine ⟨h1, fun e => ?_⟩
    rw [e, WideAt.sameKey_self (keyE_lit c)] at h2; cases h2
  · rintro ⟨h1, h2⟩
    exact ⟨h1, by rw [Maps.sameKey_ne h2]; rfl⟩
theorem room_small {L : List En} {key : ByteArray} (h : ∀ e, e ∈ L → smallE e) : ∀ j, j < (roomL L key).length → smallE (atE (roomL L key) j) := by
  intro j hj
  rw [atE_get hj]
  exact h _ (List.mem_filter.1 (List.getElem_mem hj)).1
set_option maxRecDepth 10000 in
set_option maxHeartbeats 8000000 in
theorem areaClear_any (v : Value) (L : List En) (key : ByteArray) (B : Nat) (w : World) (hs : SliceE w B v L) (hn : L.length ≤ 1048576) (hz : ∀ i, i < L.length → (atE L i).na.size ≤ 1048576 ∧ (atE L i).va.size ≤ 1048576) :
    Calls Try.prog 13 #[v, .string key] w fun e w' => ∃ v', e = .returned v' ∧ SliceE w' w.heap.size v' (clearedL L key) ∧ Below w.heap.size w w' := by
  have KB : Hid (Calls Try.prog 35 #[v, .string key] w fun e w' => (((areaB L && keyB key) = true ∧ ∃ bm, e = .returned (.tuple #[.map (some bm), .nilIface]) ∧ w.heap.size ≤ bm ∧ BookL w' bm 16 L) ∨ ((areaB L && keyB key) = false ∧ e = .returned (.tuple #[.map none, .iface 61 (.agg #[.int .i64 1])]))) ∧ Below w.heap.size w w') := roomBook_any v L key B w hs hn hz
  have HP : Hid ((areaB L && keyB key) = true → RiseE L ∧ L.length ≤ 16) := fun h => by
    rw [Bool.and_eq_true] at h
    exact ⟨area_rise h.1, (areaB_parts h.1).1⟩
  have HY : Hid ((areaB L && keyB key) = true → clearedL L key = otherL L key) := fun h => by unfold clearedL; rw [if_pos h]
  have HNo : Hid ((areaB L && keyB key) = false → clearedL L key = []) := fun h => by unfold clearedL; rw [if_neg (by rw [h]; decide)]
  clear hs hz
  generalize clearedL L key = Z at *
  generalize (areaB L && keyB key) = ok at *
  go_enter Try.func13, Try.ntmps13
  go_wp2_with fail
  refine KB.out.mono ?_
  rintro e w1 ⟨⟨rfl, bm, rfl, hbm, hm⟩ | ⟨rfl, rfl⟩, hb1⟩
  · obtain ⟨hrise, h16⟩ := HP.out rfl
    have HYZ : Hid (Z = otherL L key) := HY.out rfl
    have hsm := hm.small
    have hbmw := hm.lt
    have KR : Hid (Calls Try.prog 36 #[.map (some bm), .string key] w1 fun e w' => ∃ v, e = .returned v ∧ SliceE w' w1.heap.size v (roomL L key) ∧ Below w1.heap.size w1 w') := room_any bm 16 L L key w1 (by omega) hm hrise (fun _ => Iff.rfl) (by omega)
    have HYS : Hid (∀ j, j < (roomL L key).length → smallE (atE (roomL L key) j)) := room_small hsm
    have HFin : Hid (∀ (M : List En) (W : World), BookL W bm 16 M → (∀ x, x ∈ M ↔ x ∈ L ∧ ∀ j, j < (roomL L key).length → keyE x ≠ keyE (atE (roomL L key) j)) → Calls Try.prog 38 #[.map (some bm)] W fun e w' => ∃ v, e = .returned v ∧ SliceE w' W.heap.size v Z ∧ Below W.heap.size W w') := fun M W h1 h2 => by
      rw [HYZ.out]
      exact list_any bm 16 M (otherL L key) W (by omega) h1 (rise_filter hrise _) (others_of hsm h2)
    have HM : Hid (BookL w1 bm 16 L) := hm
    have B1 : Hid (Below w.heap.size w w1) := hb1
    have hlen : (roomL L key).length ≤ 16 := Nat.le_trans (List.length_filter_le _ _) h16
    clear hm hb1 hsm hrise HY HNo HP KB HYZ
    generalize roomL L key = Y at *
    go_wp2_with fail
    refine KR.out.mono ?_
    rintro e w2 ⟨v2, rfl, hs2, hb2⟩
    have S2 : Hid (SliceE w2 w1.heap.size v2 Y) := hs2
    have M2 : Hid (BookL w2 bm 16 L) := HM.out.below hb2
    have B2 : Hid (Below w.heap.size w w2) := B1.out.trans (hb2.mono B1.out.size)
    obtain ⟨p, cap, hv2⟩ : ∃ p cap, v2 = .slice p Y.length cap := by obtain ⟨⟨p, cap, e, -⟩, -⟩ := hs2; exact ⟨p, cap, e⟩
    clear hs2 hb2 KR HM B1
    subst hv2
    go_wp2
    go_loopw [21] (fun i wr => ∃ (k : Nat) (M : List En), k ≤ Y.length ∧ i = .int .i64 k ∧ Hid (BookL wr bm 16 M) ∧ Hid (∀ x, x ∈ M ↔ x ∈ L ∧ ∀ j, j < k → keyE x ≠ keyE (atE Y j)) ∧ Hid (SliceE wr w1.heap.size (.slice p Y.length cap) Y) ∧ Hid (Below w.heap.size w wr)) (fun i _ => Y.length - (intOf i).toNat)
    case atStart => exact ⟨0, L, Nat.zero_le _, rfl, M2, fun x => ⟨fun h => ⟨h, fun j hj => absurd hj (by omega)⟩, fun h => h.1⟩, S2, B2⟩
    case round =>
      obtain ⟨k, M, hk, rfl, HM, HX, HS, HB⟩ := hrel
      have hws : w.heap.size ≤ wr.heap.size := HB.out.size
      by_cases hlt : k < Y.length
      · obtain ⟨⟨p', cap', e', hg⟩, -⟩ := HS.out
        injection e' with e1 _ e3
        subst e1 e3
        obtain ⟨g, rfl, -, hgw, hc⟩ := hg (by omega)
        have k0 : (0 : Int) ≤ k := by omega
        have k1 : (k : Int) < Y.length := by omega
        have c0 : wr.cell? ⟨g, k * 3, none⟩ = some (.string (atE Y k).ke) := (hc k hlt 0 (by omega)).1
        have c1 : wr.cell? ⟨g, k * 3 + 1, none⟩ = some (.string (atE Y k).na) := (hc k hlt 1 (by omega)).1
        have c2 : wr.cell? ⟨g, k * 3 + 2, none⟩ = some (.string (atE Y k).va) := (hc k hlt 2 (by omega)).1
        have hmb := (HM.out.lt)
        have KD : Hid (∀ W, Below wr.heap.size wr W → Calls Try.prog 37 #[.map (some bm), .agg #[.string (atE Y k).ke, .string (atE Y k).na, .string (atE Y k).va]] W fun e w' => e = .returned (.tuple #[]) ∧ BookL w' bm 16 (lessE M (atE Y k)) ∧ W.grownBy w' (some bm)) := fun W hb => (drop_any bm 16 M (atE Y k) W (HM.out.below hb) (HYS.out k hlt)).mono (fun e w' ⟨h1, h2, h3⟩ => ⟨h1, h2 _ (lessE_mem M _), h3⟩)
        have HX1 : Hid (∀ x, x ∈ lessE M (atE Y k) ↔ x ∈ L ∧ ∀ j, j < k + 1 → keyE x ≠ keyE (atE Y j)) := keyE_drop hlt HX.out (lessE_mem M _)
        clear hg hc HX
        have HA : Hid (∀ o, Below wr.heap.size wr (wr.alloc o)) := fun o => (Below.refl _ _).alloc (Nat.le_refl _) _
        generalize lessE M (atE Y k) = M' at *
        generalize atE Y k = y at *
        obtain ⟨ke, na, va⟩ := y
        dsimp only at *
        go_wp2_with fail
        refine (KD.out _ (HA.out _)).mono ?_
        rintro e w3 ⟨rfl, hm3, hg3⟩
        have S3 : Hid (SliceE w3 w1.heap.size (.slice (some ⟨g, 0, none⟩) Y.length cap) Y) := (HS.out.below (HA.out _)).keepB hg3 hbmw
        have B3 : Hid (Below w.heap.size w w3) := (HB.out.trans ((HA.out _).mono hws)).grown hg3 (by simp; omega) (fun j hj => by have := Option.some.inj hj; omega)
        have M3 : Hid (BookL w3 bm 16 M') := hm3
        clear hm3 hg3 KD c0 c1 c2
        go_wp2
        go_roundw
        case rel => exact ⟨k + 1, M', by omega, by go_num, M3, HX1, S3, B3⟩
        case measure => simp [intOf]; omega
      · obtain rfl : k = Y.length := by omega
        go_wp2_with fail
        refine (HFin.out M _ HM.out HX.out).mono ?_
        rintro e w4 ⟨v4, rfl, hs4, hb4⟩
        have S4 : Hid (SliceE w4 w.heap.size v4 Z) := hs4.mono hws
        have B4 : Hid (Below w.heap.size w w4) := HB.out.trans (hb4.mono hws)
        clear hs4 hb4
        go_wp2
        go_ret
        exact ⟨_, rfl, S4.out, B4.out⟩
  · have HZ : Hid (Z = []) := HNo.out rfl
    go_wp2
    go_ret
    exact ⟨_, rfl, by rw [HZ.out]; exact sliceE_none _ _, hb1⟩
end Go.Proofs.Ytimmoclemcnhnaa

/- The walks of the program's AreaUsed and AreaNames. -/
namespace Go.Proofs.Ytimmoclemcnhnaa
open Go.RowKit Go.Maps

theorem sumTo_le {Y : List En} (h : ∀ j, j < Y.length → smallE (atE Y j)) : ∀ k, k ≤ Y.length → sumTo Y k ≤ k * 400
  | 0, _ => Nat.zero_le _
  | k + 1, hk => by
    have := sumTo_le h k (by omega)
    obtain ⟨_, h1, h2⟩ := h k (by omega)
    rw [sumTo]; unfold enN; omega
/-- the names of the first k -/
def nameTo (Y : List En) (k : Nat) : List ByteArray := (Y.take k).map En.na
theorem nameTo_succ {Y : List En} {k : Nat} (h : k < Y.length) : nameTo Y (k + 1) = nameTo Y k ++ [(atE Y k).na] := by
  unfold nameTo
  rw [atE_get h, ← List.take_append_getElem h, List.map_append]; rfl
theorem nameTo_len {Y : List En} {k : Nat} (h : k ≤ Y.length) : (nameTo Y k).length = k := by unfold nameTo; rw [List.length_map, List.length_take]; omega
theorem nameTo_all (Y : List En) : nameTo Y Y.length = Y.map En.na := by unfold nameTo; rw [List.take_length]
theorem sliceS_none (w : World) (B : Nat) (f : Nat → ByteArray) : SliceS w B (.slice none 0 0) 0 f := ⟨none, 0, rfl, fun h => absurd h (by omega)⟩
set_option maxRecDepth 10000 in
set_option maxHeartbeats 8000000 in
theorem areaUsed_any (v : Value) (L : List En) (key : ByteArray) (B : Nat) (w : World) (hs : SliceE w B v L) (hn : L.length ≤ 1048576) (hz : ∀ i, i < L.length → (atE L i).na.size ≤ 1048576 ∧ (atE L i).va.size ≤ 1048576) :
    Calls Try.prog 17 #[v, .string key] w fun e w' => e = .returned (.int .i64 (usedI L key : Int)) ∧ Below w.heap.size w w' := by
  have KB : Hid (Calls Try.prog 35 #[v, .string key] w fun e w' => (((areaB L && keyB key) = true ∧ ∃ bm, e = .returned (.tuple #[.map (some bm), .nilIface]) ∧ w.heap.size ≤ bm ∧ BookL w' bm 16 L) ∨ ((areaB L && keyB key) = false ∧ e = .returned (.tuple #[.map none, .iface 61 (.agg #[.int .i64 1])]))) ∧ Below w.heap.size w w') := roomBook_any v L key B w hs hn hz
  have HP : Hid ((areaB L && keyB key) = true → RiseE L ∧ L.length ≤ 16) := fun h => by
    rw [Bool.and_eq_true] at h
    exact ⟨area_rise h.1, (areaB_parts h.1).1⟩
  have HY : Hid ((areaB L && keyB key) = true → usedI L key = sumTo (roomL L key) (roomL L key).length) := fun h => by unfold usedI; rw [if_pos h, used_room]
  have HNo : Hid ((areaB L && keyB key) = false → usedI L key = 0) := fun h => by unfold usedI; rw [if_neg (by rw [h]; decide)]
  clear hs hz
  generalize usedI L key = Z at *
  generalize (areaB L && keyB key) = ok at *
  go_enter Try.func17, Try.ntmps17
  go_wp2_with fail
  refine KB.out.mono ?_
  rintro e w1 ⟨⟨rfl, bm, rfl, hbm, hm⟩ | ⟨rfl, rfl⟩, hb1⟩
  · obtain ⟨hrise, h16⟩ := HP.out rfl
    have HYZ : Hid (Z = sumTo (roomL L key) (roomL L key).length) := HY.out rfl
    have HYS : Hid (∀ j, j < (roomL L key).length → smallE (atE (roomL L key) j)) := room_small hm.small
    have HSL : Hid (∀ k, k ≤ (roomL L key).length → sumTo (roomL L key) k ≤ k * 400) := sumTo_le (room_small hm.small)
    have KR : Hid (Calls Try.prog 36 #[.map (some bm), .string key] w1 fun e w' => ∃ v, e = .returned v ∧ SliceE w' w1.heap.size v (roomL L key) ∧ Below w1.heap.size w1 w') := room_any bm 16 L L key w1 (by omega) hm hrise (fun _ => Iff.rfl) (by omega)
    have B1 : Hid (Below w.heap.size w w1) := hb1
    have hlen : (roomL L key).length ≤ 16 := Nat.le_trans (List.length_filter_le _ _) h16
    clear hm hb1 hrise HY HNo HP KB
    generalize roomL L key = Y at *
    go_wp2_with fail
    refine KR.out.mono ?_
    rintro e w2 ⟨v2, rfl, hs2, hb2⟩
    have B2 : Hid (Below w.heap.size w w2) := B1.out.trans (hb2.mono B1.out.size)
    obtain ⟨⟨p, cap, rfl, hg⟩, -⟩ := hs2
    have HG : Hid (0 < Y.length → ∃ g, p = some ⟨g, 0, none⟩ ∧ g < w2.heap.size ∧ ∀ j, j < Y.length → ∀ o, o < 3 → w2.cell? ⟨g, j * 3 + o, none⟩ = some (enC (atE Y j) o)) := fun h0 => by
      obtain ⟨g, e, -, hgw, hc⟩ := hg h0
      exact ⟨g, e, hgw, fun j hj o ho => (hc j hj o ho).1⟩
    have HS : Hid (∀ k, sumTo Y (k + 1) = sumTo Y k + enN (atE Y k)) := fun k => rfl
    have h0 : Hid (sumTo Y 0 = 0) := rfl
    clear hg hb2 KR B1
    go_wp2
    go_loopw [7, 22] (fun a i wr => ∃ (k : Nat), k ≤ Y.length ∧ i = .int .i64 k ∧ a = .int .i64 (sumTo Y k : Int) ∧ Hid (Below w2.heap.size w2 wr)) (fun _ i _ => Y.length - (intOf i).toNat)
    case atStart => exact ⟨0, Nat.zero_le _, rfl, by rw [h0.out]; rfl, Below.refl _ _⟩
    case round =>
      obtain ⟨k, hk, rfl, rfl, HB⟩ := hrel
      have hws : w2.heap.size ≤ wr.heap.size := HB.out.size
      by_cases hlt : k < Y.length
      · obtain ⟨g, rfl, hgw, hc⟩ := HG.out (by omega)
        have k0 : (0 : Int) ≤ k := by omega
        have k1 : (k : Int) < Y.length := by omega
        have c0 : wr.cell? ⟨g, k * 3, none⟩ = some (.string (atE Y k).ke) := by rw [(bcell HB.out).1 _ _ hgw]; exact hc k hlt 0 (by omega)
        have c1 : wr.cell? ⟨g, k * 3 + 1, none⟩ = some (.string (atE Y k).na) := by rw [(bcell HB.out).1 _ _ hgw]; exact hc k hlt 1 (by omega)
        have c2 : wr.cell? ⟨g, k * 3 + 2, none⟩ = some (.string (atE Y k).va) := by rw [(bcell HB.out).1 _ _ hgw]; exact hc k hlt 2 (by omega)
        have hsm := HYS.out k hlt
        have KE : Hid (∀ W, Calls Try.prog 31 #[.agg #[.string (atE Y k).ke, .string (atE Y k).na, .string (atE Y k).va]] W fun r w' => r = .returned (.int .i64 (enN (atE Y k) : Int)) ∧ Below W.heap.size W w') := fun W => entryBytes_any (atE Y k) W ⟨by have := hsm.2.1; omega, by have := hsm.2.2; omega⟩
        have hu := HSL.out (k + 1) (by omega)
        have hu0 := HSL.out k hk
        have hs1 := HS.out k
        have HA : Hid (∀ o, Below wr.heap.size wr (wr.alloc o)) := fun o => (Below.refl _ _).alloc (Nat.le_refl _) _
        clear hc hsm
        have HU : Hid (∃ u', sumTo Y (k + 1) = u') := ⟨_, rfl⟩
        obtain ⟨u', hu'⟩ := HU.out
        have HU' : Hid (sumTo Y (k + 1) = u') := hu'
        rw [hu'] at hu hs1
        clear hu' HU
        generalize sumTo Y k = u at *
        generalize enN (atE Y k) = z at *
        generalize atE Y k = y at *
        obtain ⟨ke, na, va⟩ := y
        dsimp only at *
        have hw2 : wrap64 ((u : Int) + (z : Int)) = (u' : Int) := by rw [hs1]; unfold wrap64; omega
        go_wp2_with fail
        refine (KE.out _).mono ?_
        rintro e w3 ⟨rfl, hb3⟩
        have B3 : Hid (Below w2.heap.size w2 w3) := HB.out.trans (((HA.out _).trans (hb3.mono (by simp))).mono hws)
        clear hb3
        go_wp2
        go_roundw
        case rel => exact ⟨k + 1, by omega, by go_num, by rw [HU'.out]; first | rfl | exact val_int hw2, B3⟩
        case measure => simp [intOf]; omega
      · obtain rfl : k = Y.length := by omega
        go_wp2
        go_ret
        exact ⟨congrArg (fun x : Nat => Ending.returned (.int .i64 (x : Int))) HYZ.out.symm, B2.out.trans (HB.out.mono (B2.out.size))⟩
  · have HZ : Hid (Z = 0) := HNo.out rfl
    go_wp2
    go_ret
    exact ⟨congrArg (fun x : Nat => Ending.returned (.int .i64 (x : Int))) HZ.out.symm, hb1⟩
end Go.Proofs.Ytimmoclemcnhnaa

/- The law FnExactAreaRight, walked. -/
namespace Go.Proofs.Ytimmoclemcnhnaa
open Go.RowKit

/-- the texts of entries are no longer than what is asked -/
def szE (L : List En) : Prop := ∀ i, i < L.length → (atE L i).ke.size + (atE L i).na.size + (atE L i).va.size ≤ 1048576
set_option maxRecDepth 10000 in
set_option maxHeartbeats 4000000 in
theorem lawAreaRight_any (a : Option Addr) (cap : Nat) (L : List En) (w : World) (hr : EnRow w a L) (hn : L.length ≤ maxLen) :
    Calls Try.prog 3 #[.slice a L.length cap] w fun e w' => e = .returned (.bool true) ∧ Below w.heap.size w w' := by
  have HR : Hid (EnRow w a L) := hr
  clear hr
  go_enter Try.func3, Try.ntmps3
  go_wp2_with fail
  refine (szEntryS_any a cap L 1048576 _ HR.out hn (by decide) (by decide)).mono ?_
  rintro e w0 ⟨⟨r, rfl, hr⟩, hb0⟩
  have B0 : Hid (Below w.heap.size w w0) := hb0
  clear hb0
  rcases hr with hr | ⟨r0, r1, hl, hf⟩
  · go_wp2
    go_ret
    exact ⟨rfl, B0.out⟩
  have q : decide (r < 0) = false := by rw [decide_eq_false_iff_not]; omega
  have HF : Hid (szE L) := hf
  clear hf r0 r1
  go_wp2_with fail
  refine (toEntryS_any a cap L _ (HR.out.below B0.out) hl).mono ?_
  rintro e w1 ⟨v1, rfl, s1, hb1⟩
  have B1 : Hid (Below w.heap.size w w1) := B0.out.trans (hb1.mono B0.out.size)
  have KS : Hid (Calls Try.prog 8 #[v1] w1 fun e w' => e = .returned (.bool (areaB L)) ∧ Below w1.heap.size w1 w') := specArea_any v1 L _ w1 s1 hl (fun i hi => by have := HF.out i hi; omega)
  have KI : Hid (∀ (v : Value) (B : Nat) (W : World), Below w.heap.size w W → SliceE W B v L → Calls Try.prog 10 #[v] W fun e w' => e = .returned (.bool (areaB L)) ∧ Below W.heap.size W w') := fun v B W _ b => areaRight_any v L B W b hl (fun i hi => by have := HF.out i hi; omega)
  clear s1 hb1 HF
  generalize areaB L = d at *
  go_wp2_with fail
  refine KS.out.mono ?_
  rintro e w2 ⟨rfl, hb2⟩
  have B2 : Hid (Below w.heap.size w w2) := B1.out.trans (hb2.mono B1.out.size)
  clear hb2 KS
  go_wp2_with fail
  refine (toEntryS_any a cap L _ (HR.out.below B2.out) hl).mono ?_
  rintro e w4 ⟨v4, rfl, s4, hb4⟩
  have B4 : Hid (Below w.heap.size w w4) := B2.out.trans (hb4.mono B2.out.size)
  have S4 : Hid (SliceE w4 w2.heap.size v4 L) := s4
  clear hb4 s4
  go_wp2_with fail
  refine (KI.out v4 _ w4 B4.out S4.out).mono ?_
  rintro e w5 ⟨rfl, hb5⟩
  have B5 : Hid (Below w.heap.size w w5) := B4.out.trans (hb5.mono B4.out.size)
  have S5 : Hid (SliceE w5 w2.heap.size v4 L) := S4.out.below hb5
  clear hb5
  cases d
  all_goals
    go_wp2_with fail
    refine (toEntryS_any a cap L _ (HR.out.below B5.out) hl).mono ?_
    rintro e w7 ⟨v7, rfl, s7, hb7⟩
    have S7 := S5.out.below hb7
    have B7 : Hid (Below w.heap.size w w7) := B5.out.trans (hb7.mono B5.out.size)
    clear hb7
    go_wp2_with fail
    refine (eqEntryS_any v4 v7 L _ _ _ S7 s7 hl).mono ?_
    rintro e w8 ⟨rfl, hb8⟩
    go_wp2
    go_ret
    exact ⟨rfl, B7.out.trans (hb8.mono B7.out.size)⟩
end Go.Proofs.Ytimmoclemcnhnaa

/- The law FnExactAreaUsed, walked. Written by lawcleared.py. -/
namespace Go.Proofs.Ytimmoclemcnhnaa
open Go.RowKit

set_option maxRecDepth 10000 in
set_option maxHeartbeats 4000000 in
theorem lawAreaUsed_any (a : Option Addr) (cap : Nat) (L : List En) (key : ByteArray) (w : World) (hr : EnRow w a L) (hn : L.length ≤ maxLen) :
    Calls Try.prog 5 #[.slice a L.length cap, .string key] w fun e w' => e = .returned (.bool true) ∧ Below w.heap.size w w' := by
  have HR : Hid (EnRow w a L) := hr
  clear hr
  by_cases h1 : 1048576 < key.size
  · go_enter Try.func5, Try.ntmps5
    go_wp2
    go_ret
    exact ⟨rfl, Below.refl _ _⟩
  have hk1 : key.size ≤ 1048576 := by omega
  go_enter Try.func5, Try.ntmps5
  go_wp2_with fail
  refine (szEntryS_any a cap L 1048576 _ HR.out hn (by decide) (by decide)).mono ?_
  rintro e w0 ⟨⟨r, rfl, hr⟩, hb0⟩
  have B0 : Hid (Below w.heap.size w w0) := hb0
  clear hb0
  rcases hr with hr | ⟨r0, r1, hl, hf⟩
  · go_wp2
    go_ret
    exact ⟨rfl, B0.out⟩
  have q : decide (r < 0) = false := by rw [decide_eq_false_iff_not]; omega
  have HF : Hid (szE L) := hf
  clear hf r0 r1
  go_wp2_with fail
  refine (toEntryS_any a cap L _ (HR.out.below B0.out) hl).mono ?_
  rintro e w1 ⟨v1, rfl, s1, hb1⟩
  have B1 : Hid (Below w.heap.size w w1) := B0.out.trans (hb1.mono B0.out.size)
  have KS : Hid (Calls Try.prog 16 #[v1, .string key] w1 fun e w' => e = .returned (.int .i64 (usedI L key : Int)) ∧ Below w1.heap.size w1 w') := specAreaUsed_any v1 L key _ w1 s1 hl (fun i hi => by have := HF.out i hi; omega)
  have KI : Hid (∀ (v : Value) (B : Nat) (W : World), Below w.heap.size w W → SliceE W B v L → Calls Try.prog 17 #[v, .string key] W fun e w' => e = .returned (.int .i64 (usedI L key : Int)) ∧ Below W.heap.size W w') := fun v B W _ b => areaUsed_any v L key B W b hl (fun i hi => by have := HF.out i hi; omega)
  clear s1 hb1 HF
  generalize usedI L key = d at *
  go_wp2_with fail
  refine KS.out.mono ?_
  rintro e w2 ⟨rfl, hb2⟩
  have B2 : Hid (Below w.heap.size w w2) := B1.out.trans (hb2.mono B1.out.size)
  clear hb2 KS
  go_wp2_with fail
  refine (toEntryS_any a cap L _ (HR.out.below B2.out) hl).mono ?_
  rintro e w4 ⟨v4, rfl, s4, hb4⟩
  have B4 : Hid (Below w.heap.size w w4) := B2.out.trans (hb4.mono B2.out.size)
  have S4 : Hid (SliceE w4 w2.heap.size v4 L) := s4
  clear hb4 s4
  go_wp2_with fail
  refine (KI.out v4 _ w4 B4.out S4.out).mono ?_
  rintro e w5 ⟨rfl, hb5⟩
  have B5 : Hid (Below w.heap.size w w5) := B4.out.trans (hb5.mono B4.out.size)
  have S5 : Hid (SliceE w5 w2.heap.size v4 L) := S4.out.below hb5
  clear hb5
  go_wp2_with fail
  refine (toEntryS_any a cap L _ (HR.out.below B5.out) hl).mono ?_
  rintro e w7 ⟨v7, rfl, s7, hb7⟩
  have S7 := S5.out.below hb7
  have B7 : Hid (Below w.heap.size w w7) := B5.out.trans (hb7.mono B5.out.size)
  clear hb7
  go_wp2_with fail
  refine (eqEntryS_any v4 v7 L _ _ _ S7 s7 hl).mono ?_
  rintro e w8 ⟨rfl, hb8⟩
  go_wp2
  go_ret
  exact ⟨rfl, B7.out.trans (hb8.mono B7.out.size)⟩
end Go.Proofs.Ytimmoclemcnhnaa

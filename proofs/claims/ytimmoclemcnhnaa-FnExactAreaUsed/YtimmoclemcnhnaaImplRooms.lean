/- The walks of the program's room and drop. -/
import Derived.Test.YtimmoclemcnhnaaRoomsT
import Derived.Test.YtimmoclemcnhnaaImplList
namespace Go.Proofs.Ytimmoclemcnhnaa
open Go.RowKit Go.Maps

set_option maxRecDepth 10000 in
set_option maxHeartbeats 4000000 in
theorem drop_any (bm N : Nat) (L : List En) (c : En) (w : World) (hm : BookL w bm N L) (hc : smallE c) :
    Calls Try.prog 37 #[.map (some bm), enV c] w fun e w' => e = .returned (.tuple #[]) ∧ (∀ L', (∀ x, x ∈ L' ↔ x ∈ L ∧ keyE x ≠ keyE c) → BookL w' bm N L') ∧ w.grownBy w' (some bm) := by
  have hlt := hm.lt
  obtain ⟨D, hown, hD⟩ := hm
  have HX : Hid (∀ w' L', w'.ownsMap Try.prog 63 enElem bm N (D.del (keyE c)) → (∀ x, x ∈ L' ↔ x ∈ L ∧ keyE x ≠ keyE c) → BookL w' bm N L') := fun w' L' h1 h2 => book_del hD h1 h2
  have hkey := keyOf_E hc
  have HO : Hid (w.ownsMap Try.prog 63 enElem bm N D) := hown
  clear hD hown hc
  generalize keyE c = kl at *
  obtain ⟨ke, na, va⟩ := c
  unfold enV
  dsimp only at *
  go_enter Try.func37, Try.ntmps37
  go_wp2_with (at_delete; go_must (refine wpList_delete_own _ rfl _ _ 49 63 rfl 41 placeKeyed Try.underlying49 enElem bm N D rfl (HO.out.alloc _) _ kl rfl hkey ?_); intro w2 hown2 hturn)
  have B2 : Hid (w.grownBy w2 (some bm)) := (World.grownBy_alloc w _ (some bm)).andThen hturn.grown (fun j hj => .inr hj)
  go_wp2
  go_end0
  exact ⟨rfl, fun L' h => HX.out _ L' hown2 h, B2.out⟩
set_option maxRecDepth 10000 in
set_option maxHeartbeats 8000000 in
theorem room_any (bm N : Nat) (L R : List En) (key : ByteArray) (w : World) (hN : N ≤ 1000) (hm : BookL w bm N L) (hr : RiseE R) (hR : ∀ e, e ∈ R ↔ e ∈ L) (hl : R.length ≤ 1000) :
    Calls Try.prog 36 #[.map (some bm), .string key] w fun e w' => ∃ v, e = .returned v ∧ SliceE w' w.heap.size v (roomL R key) ∧ Below w.heap.size w w' := by
  have KL : Hid (Calls Try.prog 38 #[.map (some bm)] w fun e w' => ∃ v, e = .returned v ∧ SliceE w' w.heap.size v R ∧ Below w.heap.size w w') := list_any bm N L R w hN hm hr hR
  obtain ⟨i0, hi, hy0, hy1, hy2⟩ := info_parts infoEntry
  have HZ : Hid (roomL R key = stayE (isKey key) R R.length) := (stayE_all _ R).symm
  have HLen : Hid (∀ k, (stayE (isKey key) R k).length ≤ R.length) := fun k => stayE_len _ R k
  have HSY : Hid (∀ k, k < R.length → isKey key (atE R k) = true → ∀ (v : Value) (B : Nat) (w' : World), w'.ownsRow B 41 3 v ((stayE (isKey key) R k).length + 1) (enCells (stayE (isKey key) R k) ++ enVals (atE R k)) → w'.ownsRow B 41 3 v (stayE (isKey key) R (k + 1)).length (enCells (stayE (isKey key) R (k + 1)))) := fun k hlt a v B w' h => by
    rw [stayE_yes hlt a, ← enCells_snoc, List.length_append]; exact h
  have HSN : Hid (∀ k, k < R.length → isKey key (atE R k) = false → stayE (isKey key) R (k + 1) = stayE (isKey key) R k) := fun k hlt a => stayE_no hlt a
  have HS0 : Hid (stayE (isKey key) R 0 = []) := stayE_zero _ R
  clear hm hr hR
  generalize roomL R key = Z at *
  go_enter Try.func36, Try.ntmps36
  go_wp2_with fail
  refine KL.out.mono ?_
  rintro e w1 ⟨v1, rfl, hs1, hb1⟩
  obtain ⟨⟨q, cap, rfl, hg⟩, -⟩ := hs1
  have HG : Hid (0 < R.length → ∃ g, q = some ⟨g, 0, none⟩ ∧ g < w1.heap.size ∧ ∀ j, j < R.length → ∀ o, o < 3 → w1.cell? ⟨g, j * 3 + o, none⟩ = some (enC (atE R j) o)) := fun h0 => by
    obtain ⟨g, e, -, hgw, hc⟩ := hg h0
    exact ⟨g, e, hgw, fun j hj o ho => (hc j hj o ho).1⟩
  have B1 : Hid (Below w.heap.size w w1) := hb1
  have hw1 : w.heap.size ≤ w1.heap.size := hb1.size
  clear hg hb1 KL
  go_wp2
  have HKD : Hid (∀ k, isKey key (atE R k) = ((atE R k).ke.toList == key.toList)) := fun k => rfl
  generalize hst : isKey key = st at *
  clear hst
  go_loopw [5, 11] (fun v i wr => ∃ k : Nat, k ≤ R.length ∧ i = .int .i64 k ∧ Hid (wr.ownsRow w1.heap.size 41 3 v (stayE st R k).length (enCells (stayE st R k))) ∧ Hid (Below w1.heap.size w1 wr)) (fun _ i _ => R.length - (intOf i).toNat)
  case atStart => exact ⟨0, Nat.zero_le _, rfl, by show World.ownsRow _ _ _ _ _ _ _; rw [HS0.out]; exact World.ownsRow_nil _ _ _ _, Below.refl _ _⟩
  case round =>
    obtain ⟨k, hk, rfl, HO, HB⟩ := hrel
    have hle := HLen.out k
    have hws : w1.heap.size ≤ wr.heap.size := HB.out.size
    by_cases hlt : k < R.length
    · obtain ⟨g, rfl, hgw, hc⟩ := HG.out (by omega)
      have k0 : (0 : Int) ≤ k := by omega
      have k1 : (k : Int) < R.length := by omega
      have c0 : wr.cell? ⟨g, k * 3, none⟩ = some (.string (atE R k).ke) := by rw [(bcell HB.out).1 _ _ hgw]; exact hc k hlt 0 (by omega)
      have c1 : wr.cell? ⟨g, k * 3 + 1, none⟩ = some (.string (atE R k).na) := by rw [(bcell HB.out).1 _ _ hgw]; exact hc k hlt 1 (by omega)
      have c2 : wr.cell? ⟨g, k * 3 + 2, none⟩ = some (.string (atE R k).va) := by rw [(bcell HB.out).1 _ _ hgw]; exact hc k hlt 2 (by omega)
      have HKY := HSY.out k hlt
      have HKN := HSN.out k hlt
      have hkd := HKD.out k
      clear hc
      cases hq : ((atE R k).ke.toList == key.toList) with
      | true =>
        have HKY1 : Hid (∀ (v : Value) (B : Nat) (w' : World), w'.ownsRow B 41 3 v ((stayE st R k).length + 1) (enCells (stayE st R k) ++ enVals (atE R k)) → w'.ownsRow B 41 3 v (stayE st R (k + 1)).length (enCells (stayE st R (k + 1)))) := HKY (hkd.trans hq)
        clear HKY HKN hkd
        generalize atE R k = y at *
        obtain ⟨ke, na, va⟩ := y
        dsimp only at *
        generalize stayE st R k = Y at *
        go_wp2_with (at_builtin; go_must (refine wpList_append_own _ rfl _ _ 25 rfl w1.heap.size 41 i0 (.agg #[.string ⟨#[]⟩, .string ⟨#[]⟩, .string ⟨#[]⟩]) 3 48 Try.underlying25 hi hy0 hy1 hy2 rfl (by decide) _ _ _ rfl ((HO.out.alloc _).alloc _) ⟨wr.heap.size + 1, 0, none⟩ 1 1 (enVals ⟨ke, na, va⟩) rfl rfl (by simpa using cell_En (wr.alloc (.cells #[.string ke, .string na, .string va] 41)) ⟨ke, na, va⟩ _) (one_En ⟨ke, na, va⟩) (by unfold maxLen; omega) (by omega) (by simp; omega) ?_))
        intro v1 w3 ho1 hg1 hn1
        have hb3 : Below w1.heap.size w1 w3 := ((HB.out.alloc HB.out.size _).alloc (by simp; omega) _).grown hg1 (by simp; omega) (fun j hj => own_base HO.out j hj)
        have O3 : Hid (w3.ownsRow w1.heap.size 41 3 v1 (stayE st R (k + 1)).length (enCells (stayE st R (k + 1)))) := HKY1.out _ _ _ ho1
        have B3 : Hid (Below w1.heap.size w1 w3) := hb3
        clear ho1 hg1 hn1 hb3
        go_wp2
        go_roundw
        case rel => exact ⟨k + 1, by omega, by go_num, O3, B3⟩
        case measure => simp [intOf]; omega
      | false =>
        have HE := HKN (hkd.trans hq)
        have B3 : Hid (Below w1.heap.size w1 (wr.alloc (.cells #[.string (atE R k).ke, .string (atE R k).na, .string (atE R k).va] 41))) := HB.out.alloc HB.out.size _
        have ON : Hid (∀ v : Value, wr.ownsRow w1.heap.size 41 3 v (stayE st R k).length (enCells (stayE st R k)) → (wr.alloc (.cells #[.string (atE R k).ke, .string (atE R k).na, .string (atE R k).va] 41)).ownsRow w1.heap.size 41 3 v (stayE st R (k + 1)).length (enCells (stayE st R (k + 1)))) := fun v h => by rw [HE]; exact h.alloc _
        clear HKY HKN hkd HE
        generalize atE R k = y at *
        obtain ⟨ke, na, va⟩ := y
        dsimp only at *
        go_wp2
        go_roundw
        case rel => exact ⟨k + 1, by omega, by go_num, ON.out _ HO.out, B3⟩
        case measure => simp [intOf]; omega
    · obtain rfl : k = R.length := by omega
      go_wp2
      go_ret
      exact ⟨_, rfl, by rw [HZ.out]; exact (sliceE_of_own HO.out).mono hw1, B1.out.trans (HB.out.mono hw1)⟩
end Go.Proofs.Ytimmoclemcnhnaa

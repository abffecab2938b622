/- The walks of the specification's l08Old, l08Drop, l08Live. Written by specleave.py. -/
import Derived.Test.YtehnklgpdjfcgaaSpecLeave
import Derived.Test.YtehnklgpdjfcgaaOwnBase
namespace Go.Proofs.Ytehnklgpdjfcgaa
open Go.RowKit

theorem own_some {w : World} {B n sz : Nat} {t : TypeId} {v : Value} {xs : List Value} (h : w.ownsRow B t sz v n xs) (hn : 0 < n) : ∃ g m c, v = .slice (some ⟨g, 0, none⟩) m c := by
  obtain ⟨_, ⟨rfl, _⟩ | ⟨g, cap, cur, rfl, _⟩⟩ := h
  · omega
  · exact ⟨g, n, cap, rfl⟩
set_option maxRecDepth 10000 in
set_option maxHeartbeats 8000000 in
theorem specOld8_anyS (v : Value) (L : List Gr) (now : Int) (B : Nat) (w : World) (hs : SliceG w B v L) (hn : L.length ≤ 1048576) :
    Calls Try.prog 39 #[v, .int .i64 now] w fun e w' => ∃ v', e = .returned v' ∧ (SliceG w' w.heap.size v' (L.filter (liveG now)) ∧ ∃ g m c, v' = .slice (some ⟨g, 0, none⟩) m c) ∧ Below w.heap.size w w' := by
  obtain ⟨i0, hi, hy0, hy1, hy2⟩ := info_parts infoGrant
  obtain ⟨⟨q, cap, rfl, hg⟩, -⟩ := hs
  have HG : Hid (0 < L.length → ∃ g, q = some ⟨g, 0, none⟩ ∧ g < w.heap.size ∧ ∀ j, j < L.length → ∀ o, o < 3 → w.cell? ⟨g, j * 3 + o, none⟩ = some (grC (atG L j) o)) := fun h0 => by
    obtain ⟨g, e, -, hgw, hc⟩ := hg h0
    exact ⟨g, e, hgw, fun j hj o ho => (hc j hj o ho).1⟩
  clear hg
  have B0 : Hid (Below w.heap.size w (w.alloc (.cells #[] 62))) := (Below.refl _ _).alloc (Nat.le_refl _) _
  have O0 : Hid ((w.alloc (.cells #[] 62)).ownsRow w.heap.size 62 3 (.slice (some ⟨w.heap.size, 0, none⟩) 0 0) 0 (grCells [])) := World.ownsRow_made w #[] 0 (Nat.le_refl _) (Nat.zero_le _) rfl
  have HZ : Hid (keepG (liveG now) L L.length = L.filter (liveG now)) := keepG_all _ L
  have HLen : Hid (∀ k, (keepG (liveG now) L k).length ≤ k) := fun k => keepG_len _ L k
  generalize L.filter (liveG now) = Z at *
  go_enter Try.func39, Try.ntmps39
  go_wp2
  go_loopw [5, 6] (fun v i wr => ∃ k : Nat, k ≤ L.length ∧ i = .int .i64 k ∧ Hid (wr.ownsRow w.heap.size 62 3 v (keepG (liveG now) L k).length (grCells (keepG (liveG now) L k))) ∧ Hid (Below w.heap.size w wr) ∧ Hid (∃ g m c, v = .slice (some ⟨g, 0, none⟩) m c)) (fun _ i _ => L.length - (intOf i).toNat)
  case atStart => exact ⟨0, Nat.zero_le _, rfl, O0, B0, _, _, _, rfl⟩
  case round =>
    obtain ⟨k, hk, rfl, HO, HB, HS⟩ := hrel
    have hle := HLen.out k
    have hws : w.heap.size ≤ wr.heap.size := HB.out.size
    by_cases hlt : k < L.length
    · obtain ⟨g, rfl, hgw, hc⟩ := HG.out (by omega)
      have HC : Hid (∀ j, j < L.length → ∀ o, o < 3 → w.cell? ⟨g, j * 3 + o, none⟩ = some (grC (atG L j) o)) := hc
      have k0 : (0 : Int) ≤ k := by omega
      have k1 : (k : Int) < L.length := by omega
      have HKY : Hid (liveG now (atG L k) = true → ∀ (v : Value) (w' : World), w'.ownsRow w.heap.size 62 3 v ((keepG (liveG now) L k).length + 1) (grCells (keepG (liveG now) L k) ++ grVals (atG L k)) → w'.ownsRow w.heap.size 62 3 v (keepG (liveG now) L (k + 1)).length (grCells (keepG (liveG now) L (k + 1)))) := fun a v w' h => by
        rw [keepG_yes hlt a, ← grCells_snoc, List.length_append]; exact h
      have HKN : Hid (liveG now (atG L k) = false → keepG (liveG now) L (k + 1) = keepG (liveG now) L k) := fun a => keepG_no hlt a
      have HLV : Hid (liveG now (atG L k) = decide (now < (atG L k).un)) := rfl
      clear hc
      have c0 : wr.cell? ⟨g, k * 3, none⟩ = some (.string (atG L k).tp) := by rw [(bcell HB.out).1 _ _ hgw]; exact HC.out k hlt 0 (by omega)
      have c1 : wr.cell? ⟨g, k * 3 + 1, none⟩ = some (.string (atG L k).si) := by rw [(bcell HB.out).1 _ _ hgw]; exact HC.out k hlt 1 (by omega)
      have c2 : wr.cell? ⟨g, k * 3 + 2, none⟩ = some (.int .i64 (atG L k).un) := by rw [(bcell HB.out).1 _ _ hgw]; exact HC.out k hlt 2 (by omega)
      generalize hlvv : liveG now (atG L k) = lv at *
      clear hlvv
      generalize hpf : (liveG now) = pf at *
      clear hpf
      generalize atG L k = y at *
      obtain ⟨ke, na, va⟩ := y
      dsimp only at *
      generalize keepG pf L k = Y at *
      by_cases hw : now < va
      · have qw : decide (now < va) = true := by rw [decide_eq_true_iff]; exact hw
        have HL : Hid (lv = true) := by show _ = _; rw [HLV.out, qw]
        clear hw
        go_wp2_with (at_builtin; go_must (refine wpList_append_own _ rfl _ _ 24 rfl w.heap.size 62 i0 (.agg #[.string ⟨#[]⟩, .string ⟨#[]⟩, .int .i64 0]) 3 40 Try.underlying24 hi hy0 hy1 hy2 rfl (by decide) _ _ _ rfl (HO.out.alloc _) ⟨wr.heap.size, 0, none⟩ 1 1 (grVals ⟨ke, na, va⟩) rfl rfl (cell_Gr _ ⟨ke, na, va⟩ _) (one_Gr ⟨ke, na, va⟩) (by unfold maxLen; omega) (by omega) (by simp; omega) ?_))
        intro v1 w3 ho1 hg1 hn1
        have hb3 : Below w.heap.size w w3 := (HB.out.alloc HB.out.size _).grown hg1 (Nat.le_trans HB.out.size (by simp)) (fun j hj => own_base HO.out j hj)
        have O3 : Hid (w3.ownsRow w.heap.size 62 3 v1 (keepG pf L (k + 1)).length (grCells (keepG pf L (k + 1)))) := HKY.out HL.out _ _ ho1
        have B3 : Hid (Below w.heap.size w w3) := hb3
        have N3 : Hid (∃ g m c, v1 = .slice (some ⟨g, 0, none⟩) m c) := own_some ho1 (by omega)
        clear ho1 hg1 hn1 hb3
        go_wp2
        go_roundw
        case rel => exact ⟨k + 1, by omega, by go_num, O3, B3, N3⟩
        case measure => simp [intOf]; omega
      · have qw : decide (now < va) = false := by rw [decide_eq_false_iff_not]; exact hw
        have HL : Hid (lv = false) := by show _ = _; rw [HLV.out, qw]
        clear hw
        have HE := HKN.out HL.out
        have ON : Hid (∀ v : Value, wr.ownsRow w.heap.size 62 3 v Y.length (grCells Y) → wr.ownsRow w.heap.size 62 3 v (keepG pf L (k + 1)).length (grCells (keepG pf L (k + 1)))) := fun v h => by rw [HE]; exact h
        clear HE
        go_wp2
        go_roundw
        case rel => exact ⟨k + 1, by omega, by go_num, ON.out _ HO.out, HB, HS⟩
        case measure => simp [intOf]; omega
    · obtain rfl : k = L.length := by omega
      go_wp2
      go_ret
      exact ⟨_, rfl, ⟨by rw [← HZ.out]; exact sliceG_of_own HO.out, HS.out⟩, HB.out⟩
theorem specOld8_any (v : Value) (L : List Gr) (now : Int) (B : Nat) (w : World) (hs : SliceG w B v L) (hn : L.length ≤ 1048576) :
    Calls Try.prog 39 #[v, .int .i64 now] w fun e w' => ∃ v', e = .returned v' ∧ SliceG w' w.heap.size v' (L.filter (liveG now)) ∧ Below w.heap.size w w' := by
  refine (specOld8_anyS v L now B w hs hn).mono ?_
  rintro e w' ⟨v', h1, ⟨h2, -⟩, h3⟩
  exact ⟨v', h1, h2, h3⟩
set_option maxRecDepth 10000 in
set_option maxHeartbeats 8000000 in
theorem specDrop8_anyS (v : Value) (L : List Gr) (tp si : ByteArray) (B : Nat) (w : World) (hs : SliceG w B v L) (hn : L.length ≤ 1048576) :
    Calls Try.prog 49 #[v, .string tp, .string si] w fun e w' => ∃ v', e = .returned v' ∧ (SliceG w' w.heap.size v' (L.filter (fun g => !(isG tp si g))) ∧ ∃ g m c, v' = .slice (some ⟨g, 0, none⟩) m c) ∧ Below w.heap.size w w' := by
  obtain ⟨i0, hi, hy0, hy1, hy2⟩ := info_parts infoGrant
  obtain ⟨⟨q, cap, rfl, hg⟩, -⟩ := hs
  have HG : Hid (0 < L.length → ∃ g, q = some ⟨g, 0, none⟩ ∧ g < w.heap.size ∧ ∀ j, j < L.length → ∀ o, o < 3 → w.cell? ⟨g, j * 3 + o, none⟩ = some (grC (atG L j) o)) := fun h0 => by
    obtain ⟨g, e, -, hgw, hc⟩ := hg h0
    exact ⟨g, e, hgw, fun j hj o ho => (hc j hj o ho).1⟩
  clear hg
  have B0 : Hid (Below w.heap.size w (w.alloc (.cells #[] 62))) := (Below.refl _ _).alloc (Nat.le_refl _) _
  have O0 : Hid ((w.alloc (.cells #[] 62)).ownsRow w.heap.size 62 3 (.slice (some ⟨w.heap.size, 0, none⟩) 0 0) 0 (grCells [])) := World.ownsRow_made w #[] 0 (Nat.le_refl _) (Nat.zero_le _) rfl
  have HZ : Hid (keepG (fun g => !(isG tp si g)) L L.length = L.filter (fun g => !(isG tp si g))) := keepG_all _ L
  have HLen : Hid (∀ k, (keepG (fun g => !(isG tp si g)) L k).length ≤ k) := fun k => keepG_len _ L k
  generalize L.filter (fun g => !(isG tp si g)) = Z at *
  go_enter Try.func49, Try.ntmps49
  go_wp2
  go_loopw [7, 8] (fun v i wr => ∃ k : Nat, k ≤ L.length ∧ i = .int .i64 k ∧ Hid (wr.ownsRow w.heap.size 62 3 v (keepG (fun g => !(isG tp si g)) L k).length (grCells (keepG (fun g => !(isG tp si g)) L k))) ∧ Hid (Below w.heap.size w wr) ∧ Hid (∃ g m c, v = .slice (some ⟨g, 0, none⟩) m c)) (fun _ i _ => L.length - (intOf i).toNat)
  case atStart => exact ⟨0, Nat.zero_le _, rfl, O0, B0, _, _, _, rfl⟩
  case round =>
    obtain ⟨k, hk, rfl, HO, HB, HS⟩ := hrel
    have hle := HLen.out k
    have hws : w.heap.size ≤ wr.heap.size := HB.out.size
    by_cases hlt : k < L.length
    · obtain ⟨g, rfl, hgw, hc⟩ := HG.out (by omega)
      have HC : Hid (∀ j, j < L.length → ∀ o, o < 3 → w.cell? ⟨g, j * 3 + o, none⟩ = some (grC (atG L j) o)) := hc
      have k0 : (0 : Int) ≤ k := by omega
      have k1 : (k : Int) < L.length := by omega
      have HKY : Hid ((!(isG tp si (atG L k))) = true → ∀ (v : Value) (w' : World), w'.ownsRow w.heap.size 62 3 v ((keepG (fun g => !(isG tp si g)) L k).length + 1) (grCells (keepG (fun g => !(isG tp si g)) L k) ++ grVals (atG L k)) → w'.ownsRow w.heap.size 62 3 v (keepG (fun g => !(isG tp si g)) L (k + 1)).length (grCells (keepG (fun g => !(isG tp si g)) L (k + 1)))) := fun a v w' h => by
        rw [keepG_yes hlt a, ← grCells_snoc, List.length_append]; exact h
      have HKN : Hid ((!(isG tp si (atG L k))) = false → keepG (fun g => !(isG tp si g)) L (k + 1) = keepG (fun g => !(isG tp si g)) L k) := fun a => keepG_no hlt a
      have HLV : Hid ((!(isG tp si (atG L k))) = !(((atG L k).tp.toList == tp.toList) && ((atG L k).si.toList == si.toList))) := rfl
      clear hc
      have c0 : wr.cell? ⟨g, k * 3, none⟩ = some (.string (atG L k).tp) := by rw [(bcell HB.out).1 _ _ hgw]; exact HC.out k hlt 0 (by omega)
      have c1 : wr.cell? ⟨g, k * 3 + 1, none⟩ = some (.string (atG L k).si) := by rw [(bcell HB.out).1 _ _ hgw]; exact HC.out k hlt 1 (by omega)
      have c2 : wr.cell? ⟨g, k * 3 + 2, none⟩ = some (.int .i64 (atG L k).un) := by rw [(bcell HB.out).1 _ _ hgw]; exact HC.out k hlt 2 (by omega)
      generalize hlvv : (!(isG tp si (atG L k))) = lv at *
      clear hlvv
      generalize hpf : (fun g => !(isG tp si g)) = pf at *
      clear hpf
      generalize atG L k = y at *
      obtain ⟨ke, na, va⟩ := y
      dsimp only at *
      generalize keepG pf L k = Y at *
      cases q1 : (ke.toList == tp.toList) with
      | false =>
        have q1' : (ke.toList != tp.toList) = true := by show (!(ke.toList == tp.toList)) = true; rw [q1]; rfl
        have HL : Hid (lv = true) := by show _ = _; rw [HLV.out, q1]; rfl
        go_wp2_with (at_builtin; go_must (refine wpList_append_own _ rfl _ _ 24 rfl w.heap.size 62 i0 (.agg #[.string ⟨#[]⟩, .string ⟨#[]⟩, .int .i64 0]) 3 40 Try.underlying24 hi hy0 hy1 hy2 rfl (by decide) _ _ _ rfl (HO.out.alloc _) ⟨wr.heap.size, 0, none⟩ 1 1 (grVals ⟨ke, na, va⟩) rfl rfl (cell_Gr _ ⟨ke, na, va⟩ _) (one_Gr ⟨ke, na, va⟩) (by unfold maxLen; omega) (by omega) (by simp; omega) ?_))
        intro v1 w3 ho1 hg1 hn1
        have hb3 : Below w.heap.size w w3 := (HB.out.alloc HB.out.size _).grown hg1 (Nat.le_trans HB.out.size (by simp)) (fun j hj => own_base HO.out j hj)
        have O3 : Hid (w3.ownsRow w.heap.size 62 3 v1 (keepG pf L (k + 1)).length (grCells (keepG pf L (k + 1)))) := HKY.out HL.out _ _ ho1
        have B3 : Hid (Below w.heap.size w w3) := hb3
        have N3 : Hid (∃ g m c, v1 = .slice (some ⟨g, 0, none⟩) m c) := own_some ho1 (by omega)
        clear ho1 hg1 hn1 hb3
        go_wp2
        go_roundw
        case rel => exact ⟨k + 1, by omega, by go_num, O3, B3, N3⟩
        case measure => simp [intOf]; omega
      | true =>
        have q1' : (ke.toList != tp.toList) = false := by show (!(ke.toList == tp.toList)) = false; rw [q1]; rfl
        cases q2 : (na.toList == si.toList) with
        | false =>
          have q2' : (na.toList != si.toList) = true := by show (!(na.toList == si.toList)) = true; rw [q2]; rfl
          have HL : Hid (lv = true) := by show _ = _; rw [HLV.out, q1, q2]; rfl
          go_wp2_with (at_builtin; go_must (refine wpList_append_own _ rfl _ _ 24 rfl w.heap.size 62 i0 (.agg #[.string ⟨#[]⟩, .string ⟨#[]⟩, .int .i64 0]) 3 40 Try.underlying24 hi hy0 hy1 hy2 rfl (by decide) _ _ _ rfl (HO.out.alloc _) ⟨wr.heap.size, 0, none⟩ 1 1 (grVals ⟨ke, na, va⟩) rfl rfl (cell_Gr _ ⟨ke, na, va⟩ _) (one_Gr ⟨ke, na, va⟩) (by unfold maxLen; omega) (by omega) (by simp; omega) ?_))
          intro v1 w3 ho1 hg1 hn1
          have hb3 : Below w.heap.size w w3 := (HB.out.alloc HB.out.size _).grown hg1 (Nat.le_trans HB.out.size (by simp)) (fun j hj => own_base HO.out j hj)
          have O3 : Hid (w3.ownsRow w.heap.size 62 3 v1 (keepG pf L (k + 1)).length (grCells (keepG pf L (k + 1)))) := HKY.out HL.out _ _ ho1
          have B3 : Hid (Below w.heap.size w w3) := hb3
          have N3 : Hid (∃ g m c, v1 = .slice (some ⟨g, 0, none⟩) m c) := own_some ho1 (by omega)
          clear ho1 hg1 hn1 hb3
          go_wp2
          go_roundw
          case rel => exact ⟨k + 1, by omega, by go_num, O3, B3, N3⟩
          case measure => simp [intOf]; omega
        | true =>
          have q2' : (na.toList != si.toList) = false := by show (!(na.toList == si.toList)) = false; rw [q2]; rfl
          have HL : Hid (lv = false) := by show _ = _; rw [HLV.out, q1, q2]; rfl
          have HE := HKN.out HL.out
          have ON : Hid (∀ v : Value, wr.ownsRow w.heap.size 62 3 v Y.length (grCells Y) → wr.ownsRow w.heap.size 62 3 v (keepG pf L (k + 1)).length (grCells (keepG pf L (k + 1)))) := fun v h => by rw [HE]; exact h
          clear HE
          go_wp2
          go_roundw
          case rel => exact ⟨k + 1, by omega, by go_num, ON.out _ HO.out, HB, HS⟩
          case measure => simp [intOf]; omega
    · obtain rfl : k = L.length := by omega
      go_wp2
      go_ret
      exact ⟨_, rfl, ⟨by rw [← HZ.out]; exact sliceG_of_own HO.out, HS.out⟩, HB.out⟩
theorem specDrop8_any (v : Value) (L : List Gr) (tp si : ByteArray) (B : Nat) (w : World) (hs : SliceG w B v L) (hn : L.length ≤ 1048576) :
    Calls Try.prog 49 #[v, .string tp, .string si] w fun e w' => ∃ v', e = .returned v' ∧ SliceG w' w.heap.size v' (L.filter (fun g => !(isG tp si g))) ∧ Below w.heap.size w w' := by
  refine (specDrop8_anyS v L tp si B w hs hn).mono ?_
  rintro e w' ⟨v', h1, ⟨h2, -⟩, h3⟩
  exact ⟨v', h1, h2, h3⟩
set_option maxRecDepth 10000 in
set_option maxHeartbeats 4000000 in
theorem specLive8_any (v : Value) (L : List Gr) (tp si : ByteArray) (now : Int) (B : Nat) (w : World) (hs : SliceG w B v L) (hn : L.length ≤ 1048576) (hr : RiseG L) :
    Calls Try.prog 68 #[v, .string tp, .string si, .int .i64 now] w fun e w' => e = .returned (.bool (hereG L tp si now)) ∧ Below w.heap.size w w' := by
  have HAt : Hid (∀ k, k < L.length → isG tp si (atG L k) = true → hereG L tp si now = decide (now < (atG L k).un)) := fun k h1 h2 => hereG_at hr h1 h2
  have HNo : Hid ((∀ j, j < L.length → isG tp si (atG L j) = false) → hereG L tp si now = false) := fun h => hereG_none h
  obtain ⟨⟨q, cap, rfl, hg⟩, -⟩ := hs
  have HG : Hid (0 < L.length → ∃ g, q = some ⟨g, 0, none⟩ ∧ g < w.heap.size ∧ ∀ j, j < L.length → ∀ o, o < 3 → w.cell? ⟨g, j * 3 + o, none⟩ = some (grC (atG L j) o)) := fun h0 => by
    obtain ⟨g, e, -, hgw, hc⟩ := hg h0
    exact ⟨g, e, hgw, fun j hj o ho => (hc j hj o ho).1⟩
  clear hg hr
  generalize hereG L tp si now = R at *
  go_enter Try.func68, Try.ntmps68
  go_wp2
  go_loopw [9] (fun i wr => ∃ k : Nat, k ≤ L.length ∧ i = .int .i64 k ∧ Hid (∀ j, j < k → isG tp si (atG L j) = false) ∧ Hid (Below w.heap.size w wr)) (fun i _ => L.length - (intOf i).toNat)
  case atStart => exact ⟨0, Nat.zero_le _, rfl, fun j hj => absurd hj (by omega), Below.refl _ _⟩
  case round =>
    obtain ⟨k, hk, rfl, HR, HB⟩ := hrel
    by_cases hlt : k < L.length
    · obtain ⟨g, rfl, hgw, hc⟩ := HG.out (by omega)
      have k0 : (0 : Int) ≤ k := by omega
      have k1 : (k : Int) < L.length := by omega
      have c0 : wr.cell? ⟨g, k * 3, none⟩ = some (.string (atG L k).tp) := by rw [(bcell HB.out).1 _ _ hgw]; exact hc k hlt 0 (by omega)
      have c1 : wr.cell? ⟨g, k * 3 + 1, none⟩ = some (.string (atG L k).si) := by rw [(bcell HB.out).1 _ _ hgw]; exact hc k hlt 1 (by omega)
      have c2 : wr.cell? ⟨g, k * 3 + 2, none⟩ = some (.int .i64 (atG L k).un) := by rw [(bcell HB.out).1 _ _ hgw]; exact hc k hlt 2 (by omega)
      have HY : Hid (isG tp si (atG L k) = true → R = decide (now < (atG L k).un)) := HAt.out k hlt
      have HS : Hid (isG tp si (atG L k) = false → ∀ j, j < k + 1 → isG tp si (atG L j) = false) := fun e j hj => by
        by_cases e2 : j = k
        · subst e2; exact e
        · exact HR.out j (by omega)
      have HD : Hid (isG tp si (atG L k) = (((atG L k).tp.toList == tp.toList) && ((atG L k).si.toList == si.toList))) := rfl
      clear hc HAt HNo HG
      generalize hii : isG tp si (atG L k) = ii at *
      clear hii
      generalize atG L k = y at *
      obtain ⟨ke, na, va⟩ := y
      dsimp only at *
      cases q1 : (ke.toList == tp.toList) with
      | false =>
        have HI : Hid (ii = false) := by show _ = _; rw [HD.out, q1]; rfl
        have HS2 : Hid (∀ j, j < k + 1 → isG tp si (atG L j) = false) := HS.out HI.out
        clear HS HY HD
        go_wp2
        go_roundw
        case rel => exact ⟨k + 1, by omega, by go_num, HS2, HB⟩
        case measure => simp [intOf]; omega
      | true =>
        cases q2 : (na.toList == si.toList) with
        | false =>
          have HI : Hid (ii = false) := by show _ = _; rw [HD.out, q1, q2]; rfl
          have HS2 : Hid (∀ j, j < k + 1 → isG tp si (atG L j) = false) := HS.out HI.out
          clear HS HY HD
          go_wp2
          go_roundw
          case rel => exact ⟨k + 1, by omega, by go_num, HS2, HB⟩
          case measure => simp [intOf]; omega
        | true =>
          have HI : Hid (ii = true) := by show _ = _; rw [HD.out, q1, q2]; rfl
          have HQ : Hid (R = decide (now < va)) := HY.out HI.out
          clear HS HY HD
          go_wp2
          go_ret
          exact ⟨ret_bool HQ.out.symm, HB.out⟩
    · obtain rfl : k = L.length := by omega
      have HQ : Hid (R = false) := HNo.out HR.out
      go_wp2
      go_ret
      exact ⟨ret_bool HQ.out.symm, HB.out⟩
end Go.Proofs.Ytehnklgpdjfcgaa

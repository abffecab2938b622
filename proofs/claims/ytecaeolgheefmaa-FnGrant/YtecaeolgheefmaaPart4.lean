/- 2 of this claim's texts, one behind the other. -/
import Derived.Test.YtecaeolgheefmaaPart2
import Derived.Test.YtecaeolgheefmaaPart1
import Derived.Test.YtecaeolgheefmaaPart3
/- The walks of the specification's l08Old, l08Drop, l08Live. Written by specleave.py. -/
namespace Go.Proofs.Ytecaeolgheefmaa
open Go.RowKit

theorem own_some {w : World} {B n sz : Nat} {t : TypeId} {v : Value} {xs : List Value} (h : w.ownsRow B t sz v n xs) (hn : 0 < n) : ∃ g m c, v = .slice (some ⟨g, 0, none⟩) m c := by
  obtain ⟨_, ⟨rfl, _⟩ | ⟨g, cap, cur, rfl, _⟩⟩ := h
  · omega
  · exact ⟨g, n, cap, rfl⟩
set_option maxRecDepth 10000 in
set_option maxHeartbeats 8000000 in
theorem specOld8_anyS (v : Value) (L : List Gr) (now : Int) (B : Nat) (w : World) (hs : SliceG w B v L) (hn : L.length ≤ 1048576) :
    Calls Try.prog 64 #[v, .int .i64 now] w fun e w' => ∃ v', e = .returned v' ∧ (SliceG w' w.heap.size v' (L.filter (liveG now)) ∧ ∃ g m c, v' = .slice (some ⟨g, 0, none⟩) m c) ∧ Below w.heap.size w w' := by
  obtain ⟨i0, hi, hy0, hy1, hy2⟩ := info_parts infoGrant
  obtain ⟨⟨q, cap, rfl, hg⟩, -⟩ := hs
  have HG : Hid (0 < L.length → ∃ g, q = some ⟨g, 0, none⟩ ∧ g < w.heap.size ∧ ∀ j, j < L.length → ∀ o, o < 3 → w.cell? ⟨g, j * 3 + o, none⟩ = some (grC (atG L j) o)) := fun h0 => by
    obtain ⟨g, e, -, hgw, hc⟩ := hg h0
    exact ⟨g, e, hgw, fun j hj o ho => (hc j hj o ho).1⟩
  clear hg
  have B0 : Hid (Below w.heap.size w (w.alloc (.cells #[] 64))) := (Below.refl _ _).alloc (Nat.le_refl _) _
  have O0 : Hid ((w.alloc (.cells #[] 64)).ownsRow w.heap.size 64 3 (.slice (some ⟨w.heap.size, 0, none⟩) 0 0) 0 (grCells [])) := World.ownsRow_made w #[] 0 (Nat.le_refl _) (Nat.zero_le _) rfl
  have HZ : Hid (keepG (liveG now) L L.length = L.filter (liveG now)) := keepG_all _ L
  have HLen : Hid (∀ k, (keepG (liveG now) L k).length ≤ k) := fun k => keepG_len _ L k
  generalize L.filter (liveG now) = Z at *
  go_enter Try.func64, Try.ntmps64
  go_wp2
  go_loopw [5, 6] (fun v i wr => ∃ k : Nat, k ≤ L.length ∧ i = .int .i64 k ∧ Hid (wr.ownsRow w.heap.size 64 3 v (keepG (liveG now) L k).length (grCells (keepG (liveG now) L k))) ∧ Hid (Below w.heap.size w wr) ∧ Hid (∃ g m c, v = .slice (some ⟨g, 0, none⟩) m c)) (fun _ i _ => L.length - (intOf i).toNat)
  case atStart => exact ⟨0, Nat.zero_le _, rfl, O0, B0, _, _, _, rfl⟩
  case round =>
    obtain ⟨k, hk, rfl, HO, HB, HS⟩ := hrel
    have hle := HLen.out k
    have hws : w.heap.size ≤ wr.heap.size := HB.out.size
    by_cases hlt : k < L.length
    · obtain ⟨g, rfl, hgw, hc⟩ := HG.out (by omega)
      have HC : Hid (∀ j, j < L.length → ∀ o, o < 3 → w.cell? ⟨g, j * 3 + o, none⟩ = some (grC (atG L j) o)) := hc
      have k0 : (0 : Int) ≤ k := by omega
      have k1 : (k : Int) < L.length := by omega
      have HKY : Hid (liveG now (atG L k) = true → ∀ (v : Value) (w' : World), w'.ownsRow w.heap.size 64 3 v ((keepG (liveG now) L k).length + 1) (grCells (keepG (liveG now) L k) ++ grVals (atG L k)) → w'.ownsRow w.heap.size 64 3 v (keepG (liveG now) L (k + 1)).length (grCells (keepG (liveG now) L (k + 1)))) := fun a v w' h => by
        rw [keepG_yes hlt a, ← grCells_snoc, List.length_append]; exact h
      have HKN : Hid (liveG now (atG L k) = false → keepG (liveG now) L (k + 1) = keepG (liveG now) L k) := fun a => keepG_no hlt a
      have HLV : Hid (liveG now (atG L k) = decide (now < (atG L k).un)) := rfl
      clear hc
      have c0 : wr.cell? ⟨g, k * 3, none⟩ = some (.string (atG L k).tp) := by rw [(bcell HB.out).1 _ _ hgw]; exact HC.out k hlt 0 (by omega)
      have c1 : wr.cell? ⟨g, k * 3 + 1, none⟩ = some (.string (atG L k).si) := by rw [(bcell HB.out).1 _ _ hgw]; exact HC.out k hlt 1 (by omega)
      have c2 : wr.cell? ⟨g, k * 3 + 2, none⟩ = some (.int .i64 (atG L k).un) := by rw [(bcell HB.out).1 _ _ hgw]; exact HC.out k hlt 2 (by omega)
      generalize hlvv : liveG now (atG L k) = lv at *
      clear hlvv
      generalize hpf : (liveG now) = pf at *
      clear hpf
      generalize atG L k = y at *
      obtain ⟨ke, na, va⟩ := y
      dsimp only at *
      generalize keepG pf L k = Y at *
      by_cases hw : now < va
      · have qw : decide (now < va) = true := by rw [decide_eq_true_iff]; exact hw
        have HL : Hid (lv = true) := by show _ = _; rw [HLV.out, qw]
        clear hw
        go_wp2_with (at_builtin; go_must (refine wpList_append_own _ rfl _ _ 23 rfl w.heap.size 64 i0 (.agg #[.string ⟨#[]⟩, .string ⟨#[]⟩, .int .i64 0]) 3 40 Try.underlying23 hi hy0 hy1 hy2 rfl (by decide) _ _ _ rfl (HO.out.alloc _) ⟨wr.heap.size, 0, none⟩ 1 1 (grVals ⟨ke, na, va⟩) rfl rfl (cell_Gr _ ⟨ke, na, va⟩ _) (one_Gr ⟨ke, na, va⟩) (by unfold maxLen; omega) (by omega) (by simp; omega) ?_))
        intro v1 w3 ho1 hg1 hn1
        have hb3 : Below w.heap.size w w3 := (HB.out.alloc HB.out.size _).grown hg1 (Nat.le_trans HB.out.size (by simp)) (fun j hj => own_base HO.out j hj)
        have O3 : Hid (w3.ownsRow w.heap.size 64 3 v1 (keepG pf L (k + 1)).length (grCells (keepG pf L (k + 1)))) := HKY.out HL.out _ _ ho1
        have B3 : Hid (Below w.heap.size w w3) := hb3
        have N3 : Hid (∃ g m c, v1 = .slice (some ⟨g, 0, none⟩) m c) := own_some ho1 (by omega)
        clear ho1 hg1 hn1 hb3
        go_wp2
        go_roundw
        case rel => exact ⟨k + 1, by omega, by go_num, O3, B3, N3⟩
        case measure => simp [intOf]; omega
      · have qw : decide (now < va) = false := by rw [decide_eq_false_iff_not]; exact hw
        have HL : Hid (lv = false) := by show _ = _; rw [HLV.out, qw]
        clear hw
        have HE := HKN.out HL.out
        have ON : Hid (∀ v : Value, wr.ownsRow w.heap.size 64 3 v Y.length (grCells Y) → wr.ownsRow w.heap.size 64 3 v (keepG pf L (k + 1)).length (grCells (keepG pf L (k + 1)))) := fun v h => by rw [HE]; exact h
        clear HE
        go_wp2
        go_roundw
        case rel => exact ⟨k + 1, by omega, by go_num, ON.out _ HO.out, HB, HS⟩
        case measure => simp [intOf]; omega
    · obtain rfl : k = L.length := by omega
      go_wp2
      go_ret
      exact ⟨_, rfl, ⟨by rw [← HZ.out]; exact sliceG_of_own HO.out, HS.out⟩, HB.out⟩
theorem specOld8_any (v : Value) (L : List Gr) (now : Int) (B : Nat) (w : World) (hs : SliceG w B v L) (hn : L.length ≤ 1048576) :
    Calls Try.prog 64 #[v, .int .i64 now] w fun e w' => ∃ v', e = .returned v' ∧ SliceG w' w.heap.size v' (L.filter (liveG now)) ∧ Below w.heap.size w w' := by
  refine (specOld8_anyS v L now B w hs hn).mono ?_
  rintro e w' ⟨v', h1, ⟨h2, -⟩, h3⟩
  exact ⟨v', h1, h2, h3⟩
set_option maxRecDepth 10000 in
set_option maxHeartbeats 8000000 in
theorem specDrop8_anyS (v : Value) (L : List Gr) (tp si : ByteArray) (B : Nat) (w : World) (hs : SliceG w B v L) (hn : L.length ≤ 1048576) :
    Calls Try.prog 62 #[v, .string tp, .string si] w fun e w' => ∃ v', e = .returned v' ∧ (SliceG w' w.heap.size v' (L.filter (fun g => !(isG tp si g))) ∧ ∃ g m c, v' = .slice (some ⟨g, 0, none⟩) m c) ∧ Below w.heap.size w w' := by
  obtain ⟨i0, hi, hy0, hy1, hy2⟩ := info_parts infoGrant
  obtain ⟨⟨q, cap, rfl, hg⟩, -⟩ := hs
  have HG : Hid (0 < L.length → ∃ g, q = some ⟨g, 0, none⟩ ∧ g < w.heap.size ∧ ∀ j, j < L.length → ∀ o, o < 3 → w.cell? ⟨g, j * 3 + o, none⟩ = some (grC (atG L j) o)) := fun h0 => by
    obtain ⟨g, e, -, hgw, hc⟩ := hg h0
    exact ⟨g, e, hgw, fun j hj o ho => (hc j hj o ho).1⟩
  clear hg
  have B0 : Hid (Below w.heap.size w (w.alloc (.cells #[] 64))) := (Below.refl _ _).alloc (Nat.le_refl _) _
  have O0 : Hid ((w.alloc (.cells #[] 64)).ownsRow w.heap.size 64 3 (.slice (some ⟨w.heap.size, 0, none⟩) 0 0) 0 (grCells [])) := World.ownsRow_made w #[] 0 (Nat.le_refl _) (Nat.zero_le _) rfl
  have HZ : Hid (keepG (fun g => !(isG tp si g)) L L.length = L.filter (fun g => !(isG tp si g))) := keepG_all _ L
  have HLen : Hid (∀ k, (keepG (fun g => !(isG tp si g)) L k).length ≤ k) := fun k => keepG_len _ L k
  generalize L.filter (fun g => !(isG tp si g)) = Z at *
  go_enter Try.func62, Try.ntmps62
  go_wp2
  go_loopw [7, 8] (fun v i wr => ∃ k : Nat, k ≤ L.length ∧ i = .int .i64 k ∧ Hid (wr.ownsRow w.heap.size 64 3 v (keepG (fun g => !(isG tp si g)) L k).length (grCells (keepG (fun g => !(isG tp si g)) L k))) ∧ Hid (Below w.heap.size w wr) ∧ Hid (∃ g m c, v = .slice (some ⟨g, 0, none⟩) m c)) (fun _ i _ => L.length - (intOf i).toNat)
  case atStart => exact ⟨0, Nat.zero_le _, rfl, O0, B0, _, _, _, rfl⟩
  case round =>
    obtain ⟨k, hk, rfl, HO, HB, HS⟩ := hrel
    have hle := HLen.out k
    have hws : w.heap.size ≤ wr.heap.size := HB.out.size
    by_cases hlt : k < L.length
    · obtain ⟨g, rfl, hgw, hc⟩ := HG.out (by omega)
      have HC : Hid (∀ j, j < L.length → ∀ o, o < 3 → w.cell? ⟨g, j * 3 + o, none⟩ = some (grC (atG L j) o)) := hc
      have k0 : (0 : Int) ≤ k := by omega
      have k1 : (k : Int) < L.length := by omega
      have HKY : Hid ((!(isG tp si (atG L k))) = true → ∀ (v : Value) (w' : World), w'.ownsRow w.heap.size 64 3 v ((keepG (fun g => !(isG tp si g)) L k).length + 1) (grCells (keepG (fun g => !(isG tp si g)) L k) ++ grVals (atG L k)) → w'.ownsRow w.heap.size 64 3 v (keepG (fun g => !(isG tp si g)) L (k + 1)).length (grCells (keepG (fun g => !(isG tp si g)) L (k + 1)))) := fun a v w' h => by
        rw [keepG_yes hlt a, ← grCells_snoc, List.length_append]; exact h
      have HKN : Hid ((!(isG tp si (atG L k))) = false → keepG (fun g => !(isG tp si g)) L (k + 1) = keepG (fun g => !(isG tp si g)) L k) := fun a => keepG_no hlt a
      have HLV : Hid ((!(isG tp si (atG L k))) = !(((atG L k).tp.toList == tp.toList) && ((atG L k).si.toList == si.toList))) := rfl
      clear hc
      have c0 : wr.cell? ⟨g, k * 3, none⟩ = some (.string (atG L k).tp) := by rw [(bcell HB.out).1 _ _ hgw]; exact HC.out k hlt 0 (by omega)
      have c1 : wr.cell? ⟨g, k * 3 + 1, none⟩ = some (.string (atG L k).si) := by rw [(bcell HB.out).1 _ _ hgw]; exact HC.out k hlt 1 (by omega)
      have c2 : wr.cell? ⟨g, k * 3 + 2, none⟩ = some (.int .i64 (atG L k).un) := by rw [(bcell HB.out).1 _ _ hgw]; exact HC.out k hlt 2 (by omega)
      generalize hlvv : (!(isG tp si (atG L k))) = lv at *
      clear hlvv
      generalize hpf : (fun g => !(isG tp si g)) = pf at *
      clear hpf
      generalize atG L k = y at *
      obtain ⟨ke, na, va⟩ := y
      dsimp only at *
      generalize keepG pf L k = Y at *
      cases q1 : (ke.toList == tp.toList) with
      | false =>
        have q1' : (ke.toList != tp.toList) = true := by show (!(ke.toList == tp.toList)) = true; rw [q1]; rfl
        have HL : Hid (lv = true) := by show _ = _; rw [HLV.out, q1]; rfl
        go_wp2_with (at_builtin; go_must (refine wpList_append_own _ rfl _ _ 23 rfl w.heap.size 64 i0 (.agg #[.string ⟨#[]⟩, .string ⟨#[]⟩, .int .i64 0]) 3 40 Try.underlying23 hi hy0 hy1 hy2 rfl (by decide) _ _ _ rfl (HO.out.alloc _) ⟨wr.heap.size, 0, none⟩ 1 1 (grVals ⟨ke, na, va⟩) rfl rfl (cell_Gr _ ⟨ke, na, va⟩ _) (one_Gr ⟨ke, na, va⟩) (by unfold maxLen; omega) (by omega) (by simp; omega) ?_))
        intro v1 w3 ho1 hg1 hn1
        have hb3 : Below w.heap.size w w3 := (HB.out.alloc HB.out.size _).grown hg1 (Nat.le_trans HB.out.size (by simp)) (fun j hj => own_base HO.out j hj)
        have O3 : Hid (w3.ownsRow w.heap.size 64 3 v1 (keepG pf L (k + 1)).length (grCells (keepG pf L (k + 1)))) := HKY.out HL.out _ _ ho1
        have B3 : Hid (Below w.heap.size w w3) := hb3
        have N3 : Hid (∃ g m c, v1 = .slice (some ⟨g, 0, none⟩) m c) := own_some ho1 (by omega)
        clear ho1 hg1 hn1 hb3
        go_wp2
        go_roundw
        case rel => exact ⟨k + 1, by omega, by go_num, O3, B3, N3⟩
        case measure => simp [intOf]; omega
      | true =>
        have q1' : (ke.toList != tp.toList) = false := by show (!(ke.toList == tp.toList)) = false; rw [q1]; rfl
        cases q2 : (na.toList == si.toList) with
        | false =>
          have q2' : (na.toList != si.toList) = true := by show (!(na.toList == si.toList)) = true; rw [q2]; rfl
          have HL : Hid (lv = true) := by show _ = _; rw [HLV.out, q1, q2]; rfl
          go_wp2_with (at_builtin; go_must (refine wpList_append_own _ rfl _ _ 23 rfl w.heap.size 64 i0 (.agg #[.string ⟨#[]⟩, .string ⟨#[]⟩, .int .i64 0]) 3 40 Try.underlying23 hi hy0 hy1 hy2 rfl (by decide) _ _ _ rfl (HO.out.alloc _) ⟨wr.heap.size, 0, none⟩ 1 1 (grVals ⟨ke, na, va⟩) rfl rfl (cell_Gr _ ⟨ke, na, va⟩ _) (one_Gr ⟨ke, na, va⟩) (by unfold maxLen; omega) (by omega) (by simp; omega) ?_))
          intro v1 w3 ho1 hg1 hn1
          have hb3 : Below w.heap.size w w3 := (HB.out.alloc HB.out.size _).grown hg1 (Nat.le_trans HB.out.size (by simp)) (fun j hj => own_base HO.out j hj)
          have O3 : Hid (w3.ownsRow w.heap.size 64 3 v1 (keepG pf L (k + 1)).length (grCells (keepG pf L (k + 1)))) := HKY.out HL.out _ _ ho1
          have B3 : Hid (Below w.heap.size w w3) := hb3
          have N3 : Hid (∃ g m c, v1 = .slice (some ⟨g, 0, none⟩) m c) := own_some ho1 (by omega)
          clear ho1 hg1 hn1 hb3
          go_wp2
          go_roundw
          case rel => exact ⟨k + 1, by omega, by go_num, O3, B3, N3⟩
          case measure => simp [intOf]; omega
        | true =>
          have q2' : (na.toList != si.toList) = false := by show (!(na.toList == si.toList)) = false; rw [q2]; rfl
          have HL : Hid (lv = false) := by show _ = _; rw [HLV.out, q1, q2]; rfl
          have HE := HKN.out HL.out
          have ON : Hid (∀ v : Value, wr.ownsRow w.heap.size 64 3 v Y.length (grCells Y) → wr.ownsRow w.heap.size 64 3 v (keepG pf L (k + 1)).length (grCells (keepG pf L (k + 1)))) := fun v h => by rw [HE]; exact h
          clear HE
          go_wp2
          go_roundw
          case rel => exact ⟨k + 1, by omega, by go_num, ON.out _ HO.out, HB, HS⟩
          case measure => simp [intOf]; omega
    · obtain rfl : k = L.length := by omega
      go_wp2
      go_ret
      exact ⟨_, rfl, ⟨by rw [← HZ.out]; exact sliceG_of_own HO.out, HS.out⟩, HB.out⟩
theorem specDrop8_any (v : Value) (L : List Gr) (tp si : ByteArray) (B : Nat) (w : World) (hs : SliceG w B v L) (hn : L.length ≤ 1048576) :
    Calls Try.prog 62 #[v, .string tp, .string si] w fun e w' => ∃ v', e = .returned v' ∧ SliceG w' w.heap.size v' (L.filter (fun g => !(isG tp si g))) ∧ Below w.heap.size w w' := by
  refine (specDrop8_anyS v L tp si B w hs hn).mono ?_
  rintro e w' ⟨v', h1, ⟨h2, -⟩, h3⟩
  exact ⟨v', h1, h2, h3⟩
set_option maxRecDepth 10000 in
set_option maxHeartbeats 4000000 in
theorem specLive8_any (v : Value) (L : List Gr) (tp si : ByteArray) (now : Int) (B : Nat) (w : World) (hs : SliceG w B v L) (hn : L.length ≤ 1048576) (hr : RiseG L) :
    Calls Try.prog 66 #[v, .string tp, .string si, .int .i64 now] w fun e w' => e = .returned (.bool (hereG L tp si now)) ∧ Below w.heap.size w w' := by
  have HAt : Hid (∀ k, k < L.length → isG tp si (atG L k) = true → hereG L tp si now = decide (now < (atG L k).un)) := fun k h1 h2 => hereG_at hr h1 h2
  have HNo : Hid ((∀ j, j < L.length → isG tp si (atG L j) = false) → hereG L tp si now = false) := fun h => hereG_none h
  obtain ⟨⟨q, cap, rfl, hg⟩, -⟩ := hs
  have HG : Hid (0 < L.length → ∃ g, q = some ⟨g, 0, none⟩ ∧ g < w.heap.size ∧ ∀ j, j < L.length → ∀ o, o < 3 → w.cell? ⟨g, j * 3 + o, none⟩ = some (grC (atG L j) o)) := fun h0 => by
    obtain ⟨g, e, -, hgw, hc⟩ := hg h0
    exact ⟨g, e, hgw, fun j hj o ho => (hc j hj o ho).1⟩
  clear hg hr
  generalize hereG L tp si now = R at *
  go_enter Try.func66, Try.ntmps66
  go_wp2
  go_loopw [9] (fun i wr => ∃ k : Nat, k ≤ L.length ∧ i = .int .i64 k ∧ Hid (∀ j, j < k → isG tp si (atG L j) = false) ∧ Hid (Below w.heap.size w wr)) (fun i _ => L.length - (intOf i).toNat)
  case atStart => exact ⟨0, Nat.zero_le _, rfl, fun j hj => absurd hj (by omega), Below.refl _ _⟩
  case round =>
    obtain ⟨k, hk, rfl, HR, HB⟩ := hrel
    by_cases hlt : k < L.length
    · obtain ⟨g, rfl, hgw, hc⟩ := HG.out (by omega)
      have k0 : (0 : Int) ≤ k := by omega
      have k1 : (k : Int) < L.length := by omega
      have c0 : wr.cell? ⟨g, k * 3, none⟩ = some (.string (atG L k).tp) := by rw [(bcell HB.out).1 _ _ hgw]; exact hc k hlt 0 (by omega)
      have c1 : wr.cell? ⟨g, k * 3 + 1, none⟩ = some (.string (atG L k).si) := by rw [(bcell HB.out).1 _ _ hgw]; exact hc k hlt 1 (by omega)
      have c2 : wr.cell? ⟨g, k * 3 + 2, none⟩ = some (.int .i64 (atG L k).un) := by rw [(bcell HB.out).1 _ _ hgw]; exact hc k hlt 2 (by omega)
      have HY : Hid (isG tp si (atG L k) = true → R = decide (now < (atG L k).un)) := HAt.out k hlt
      have HS : Hid (isG tp si (atG L k) = false → ∀ j, j < k + 1 → isG tp si (atG L j) = false) := fun e j hj => by
        by_cases e2 : j = k
        · subst e2; exact e
        · exact HR.out j (by omega)
      have HD : Hid (isG tp si (atG L k) = (((atG L k).tp.toList == tp.toList) && ((atG L k).si.toList == si.toList))) := rfl
      clear hc HAt HNo HG
      generalize hii : isG tp si (atG L k) = ii at *
      clear hii
      generalize atG L k = y at *
      obtain ⟨ke, na, va⟩ := y
      dsimp only at *
      cases q1 : (ke.toList == tp.toList) with
      | false =>
        have HI : Hid (ii = false) := by show _ = _; rw [HD.out, q1]; rfl
        have HS2 : Hid (∀ j, j < k + 1 → isG tp si (atG L j) = false) := HS.out HI.out
        clear HS HY HD
        go_wp2
        go_roundw
        case rel => exact ⟨k + 1, by omega, by go_num, HS2, HB⟩
        case measure => simp [intOf]; omega
      | true =>
        cases q2 : (na.toList == si.toList) with
        | false =>
          have HI : Hid (ii = false) := by show _ = _; rw [HD.out, q1, q2]; rfl
          have HS2 : Hid (∀ j, j < k + 1 → isG tp si (atG L j) = false) := HS.out HI.out
          clear HS HY HD
          go_wp2
          go_roundw
          case rel => exact ⟨k + 1, by omega, by go_num, HS2, HB⟩
          case measure => simp [intOf]; omega
        | true =>
          have HI : Hid (ii = true) := by show _ = _; rw [HD.out, q1, q2]; rfl
          have HQ : Hid (R = decide (now < va)) := HY.out HI.out
          clear HS HY HD
          go_wp2
          go_ret
          exact ⟨ret_bool HQ.out.symm, HB.out⟩
    · obtain rfl : k = L.length := by omega
      have HQ : Hid (R = false) := HNo.out HR.out
      go_wp2
      go_ret
      exact ⟨ret_bool HQ.out.symm, HB.out⟩
end Go.Proofs.Ytecaeolgheefmaa

/- The walks of the specification's l08Begin, GrantLive, GrantOld, GrantDrop. Written by specgrant2.py. -/
namespace Go.Proofs.Ytecaeolgheefmaa
open Go.RowKit

set_option maxRecDepth 10000 in
set_option maxHeartbeats 4000000 in
theorem specBegin8_any (v : Value) (L : List Gr) (tp si : ByteArray) (now : Int) (B : Nat) (w : World) (hs : SliceG w B v L) (hn : L.length ≤ 1048576) (h1 : tp.size ≤ 1048576) (h2 : si.size ≤ 1048576) :
    Calls Try.prog 57 #[v, .string tp, .string si, .int .i64 now] w fun e w' => e = .returned (.int .i64 (beginG L tp si now)) ∧ Below w.heap.size w w' := by
  have KG : Hid (∀ W, Below w.heap.size w W → Calls Try.prog 27 #[v] W fun e w' => e = .returned (.bool (grantsB L)) ∧ Below W.heap.size W w') := fun W hb => specGrants_any v L B W (hs.below hb) hn
  have KT : Hid (∀ W, Calls Try.prog 59 #[.string tp] W fun e w' => e = .returned (.bool (siteG tp)) ∧ w' = W) := fun W => specSite8_any tp W
  have KS : Hid (∀ W, Calls Try.prog 59 #[.string si] W fun e w' => e = .returned (.bool (siteG si)) ∧ w' = W) := fun W => specSite8_any si W
  have KU : Hid (∀ W, Calls Try.prog 60 #[.int .i64 now] W fun e w' => e = .returned (.bool (timeG now)) ∧ w' = W) := fun W => specTime8_any now W
  have HF : Hid (fitsG L tp si = (decide (L.length ≤ 400) && decide (tp.size ≤ 8000) && decide (si.size ≤ 8000))) := rfl
  have HNo : Hid (fitsG L tp si = false → beginG L tp si now = 2) := fun h => by unfold beginG; rw [if_neg (by rw [h]; decide)]
  have HY : Hid (fitsG L tp si = true → beginG L tp si now = if (grantsB L && siteG tp && siteG si && timeG now) = true then 0 else 1) := fun h => by unfold beginG; rw [if_pos h]; rfl
  obtain ⟨⟨q, cap, rfl, -⟩, -⟩ := hs
  generalize beginG L tp si now = R at *
  by_cases c1 : 400 < L.length
  case pos =>
    have HR : Hid (R = 2) := HNo.out (by rw [HF.out, decide_eq_false (by omega)]; rfl)
    have q1 : decide ((400 : Int) < (L.length : Int)) = true := by rw [decide_eq_true_iff]; omega
    go_enter Try.func57, Try.ntmps57
    go_wp2
    go_ret
    exact ⟨ret_int HR.out.symm, Below.refl _ _⟩
  have q1 : decide ((400 : Int) < (L.length : Int)) = false := by rw [decide_eq_false_iff_not]; omega
  by_cases c2 : 8000 < tp.size
  case pos =>
    have HR : Hid (R = 2) := HNo.out (by rw [HF.out, decide_eq_false (p := tp.size ≤ 8000) (by omega), Bool.and_false]; rfl)
    have q2 : decide ((8000 : Int) < (tp.size : Int)) = true := by rw [decide_eq_true_iff]; omega
    go_enter Try.func57, Try.ntmps57
    go_wp2
    go_ret
    exact ⟨ret_int HR.out.symm, Below.refl _ _⟩
  have q2 : decide ((8000 : Int) < (tp.size : Int)) = false := by rw [decide_eq_false_iff_not]; omega
  by_cases c3 : 8000 < si.size
  case pos =>
    have HR : Hid (R = 2) := HNo.out (by rw [HF.out, decide_eq_false (p := si.size ≤ 8000) (by omega), Bool.and_false])
    have q3 : decide ((8000 : Int) < (si.size : Int)) = true := by rw [decide_eq_true_iff]; omega
    go_enter Try.func57, Try.ntmps57
    go_wp2
    go_ret
    exact ⟨ret_int HR.out.symm, Below.refl _ _⟩
  have q3 : decide ((8000 : Int) < (si.size : Int)) = false := by rw [decide_eq_false_iff_not]; omega
  have HR : Hid (R = if (grantsB L && siteG tp && siteG si && timeG now) = true then 0 else 1) := HY.out (by rw [HF.out, decide_eq_true (by omega), decide_eq_true (by omega), decide_eq_true (by omega)]; rfl)
  clear HF HNo HY c1 c2 c3
  generalize grantsB L = r1 at *
  generalize siteG tp = r2 at *
  generalize siteG si = r3 at *
  generalize timeG now = r4 at *
  go_enter Try.func57, Try.ntmps57
  go_wp2_with fail
  refine (KG.out _ (Below.refl _ _)).mono ?_
  rintro e w1 ⟨rfl, hb1⟩
  have B1 : Hid (Below w.heap.size w w1) := hb1
  clear hb1 KG
  cases r1 with
  | false =>
    go_wp2
    go_ret
    exact ⟨by rw [HR.out]; rfl, B1.out⟩
  | true =>
  go_wp2_with fail
  refine (KT.out _).mono ?_
  rintro e w2 ⟨rfl, rfl⟩
  cases r2 with
  | false =>
    go_wp2
    go_ret
    exact ⟨by rw [HR.out]; rfl, B1.out⟩
  | true =>
  go_wp2_with fail
  refine (KS.out _).mono ?_
  rintro e w2 ⟨rfl, rfl⟩
  cases r3 with
  | false =>
    go_wp2
    go_ret
    exact ⟨by rw [HR.out]; rfl, B1.out⟩
  | true =>
  go_wp2_with fail
  refine (KU.out _).mono ?_
  rintro e w2 ⟨rfl, rfl⟩
  cases r4 with
  | false =>
    go_wp2
    go_ret
    exact ⟨by rw [HR.out]; rfl, B1.out⟩
  | true =>
    go_wp2
    go_ret
    exact ⟨by rw [HR.out]; rfl, B1.out⟩
theorem begin_zero {L : List Gr} {tp si : ByteArray} {now : Int} : (beginG L tp si now = 0 ∧ mayG L tp si now = true) ∨ ((beginG L tp si now = 1 ∨ beginG L tp si now = 2) ∧ mayG L tp si now = false) := by
  cases h : mayG L tp si now with
  | true => exact .inl ⟨begin_may h, rfl⟩
  | false =>
    refine .inr ⟨?_, rfl⟩
    unfold beginG
    rw [h]
    split
    · exact .inl rfl
    · exact .inr rfl
set_option maxRecDepth 10000 in
set_option maxHeartbeats 2000000 in
theorem specGrantLive_any (v : Value) (L : List Gr) (tp si : ByteArray) (now : Int) (B : Nat) (w : World) (hs : SliceG w B v L) (hn : L.length ≤ 1048576) (h1 : tp.size ≤ 1048576) (h2 : si.size ≤ 1048576) :
    Calls Try.prog 25 #[v, .string tp, .string si, .int .i64 now] w fun e w' => e = .returned (.bool (liveB8 L tp si now)) ∧ Below w.heap.size w w' := by
  have KB : Hid (Calls Try.prog 57 #[v, .string tp, .string si, .int .i64 now] w fun e w' => e = .returned (.int .i64 (beginG L tp si now)) ∧ Below w.heap.size w w') := specBegin8_any v L tp si now B w hs hn h1 h2
  have KL : Hid (mayG L tp si now = true → ∀ W, Below w.heap.size w W → Calls Try.prog 66 #[v, .string tp, .string si, .int .i64 now] W fun e w' => e = .returned (.bool (hereG L tp si now)) ∧ Below W.heap.size W w') := fun h W hb => specLive8_any v L tp si now B W (hs.below hb) hn (grants_rise (mayG_parts h).1)
  have HM : Hid (liveB8 L tp si now = (mayG L tp si now && hereG L tp si now)) := rfl
  have HZ := begin_zero (L := L) (tp := tp) (si := si) (now := now)
  clear hs
  generalize liveB8 L tp si now = R at *
  generalize mayG L tp si now = r1 at *
  generalize hereG L tp si now = r2 at *
  generalize beginG L tp si now = c at *
  rcases HZ with ⟨rfl, rfl⟩ | ⟨hc, rfl⟩
  · have KL2 := KL.out rfl
    have KL3 : Hid (∀ W, Below w.heap.size w W → Calls Try.prog 66 #[v, .string tp, .string si, .int .i64 now] W fun e w' => e = .returned (.bool r2) ∧ Below W.heap.size W w') := KL2
    clear KL KL2
    go_enter Try.func25, Try.ntmps25
    go_wp2_with fail
    refine KB.out.mono ?_
    rintro e w1 ⟨rfl, hb1⟩
    have B1 : Hid (Below w.heap.size w w1) := hb1
    clear hb1
    go_wp2_with fail
    refine (KL3.out _ B1.out).mono ?_
    rintro e w2 ⟨rfl, hb2⟩
    have B2 : Hid (Below w.heap.size w w2) := B1.out.trans (hb2.mono B1.out.size)
    clear hb2
    go_wp2
    go_ret
    exact ⟨ret_bool HM.out.symm, B2.out⟩
  · have q : (c == 0) = false := by rw [beq_eq_false_iff_ne]; omega
    clear hc KL
    go_enter Try.func25, Try.ntmps25
    go_wp2_with fail
    refine KB.out.mono ?_
    rintro e w1 ⟨rfl, hb1⟩
    go_wp2
    go_ret
    exact ⟨ret_bool HM.out.symm, hb1⟩
set_option maxRecDepth 10000 in
set_option maxHeartbeats 2000000 in
theorem specGrantOld_any (v : Value) (L : List Gr) (now : Int) (B : Nat) (w : World) (hs : SliceG w B v L) (hn : L.length ≤ 1048576) :
    Calls Try.prog 23 #[v, .int .i64 now] w fun e w' => ∃ v', e = .returned v' ∧ SliceG w' w.heap.size v' (oldG L now) ∧ Below w.heap.size w w' := by
  have KG : Hid (Calls Try.prog 27 #[v] w fun e w' => e = .returned (.bool (grantsB L)) ∧ Below w.heap.size w w') := specGrants_any v L B w hs hn
  have KU : Hid (∀ W, Calls Try.prog 60 #[.int .i64 now] W fun e w' => e = .returned (.bool (timeG now)) ∧ w' = W) := fun W => specTime8_any now W
  have KO : Hid (∀ W, Below w.heap.size w W → Calls Try.prog 64 #[v, .int .i64 now] W fun e w' => ∃ v', e = .returned v' ∧ SliceG w' W.heap.size v' (L.filter (liveG now)) ∧ Below W.heap.size W w') := fun W hb => specOld8_any v L now B W (hs.below hb) hn
  have HNo : Hid ((grantsB L && timeG now) = false → oldG L now = []) := fun h => by unfold oldG; rw [if_neg (by rw [h]; decide)]
  have HY : Hid ((grantsB L && timeG now) = true → oldG L now = L.filter (liveG now)) := fun h => by unfold oldG; rw [if_pos h]
  have HJ : Hid (grantsB L = true → L.length ≤ 8) := fun h => (grantsB_parts h).1
  have HE : Hid (∀ W : World, SliceG (W.alloc (.cells #[] 64)) W.heap.size (.slice (some ⟨W.heap.size, 0, none⟩) 0 0) []) := fun W => sliceG_of_own (World.ownsRow_made W #[] 0 (Nat.le_refl _) (Nat.zero_le _) rfl)
  obtain ⟨⟨q, cap, rfl, -⟩, -⟩ := hs
  generalize oldG L now = Z at *
  generalize L.filter (liveG now) = Y at *
  by_cases c1 : 400 < L.length
  case pos =>
    have HZ : Hid (Z = []) := HNo.out (by
      cases h : grantsB L with
      | false => rfl
      | true => have := HJ.out h; omega)
    have q1 : decide ((400 : Int) < (L.length : Int)) = true := by rw [decide_eq_true_iff]; omega
    go_enter Try.func23, Try.ntmps23
    go_wp2
    go_ret
    exact ⟨_, rfl, by rw [HZ.out]; exact HE.out w, (Below.refl _ _).alloc (Nat.le_refl _) _⟩
  have q1 : decide ((400 : Int) < (L.length : Int)) = false := by rw [decide_eq_false_iff_not]; omega
  clear HJ c1
  generalize grantsB L = r1 at *
  generalize timeG now = r2 at *
  go_enter Try.func23, Try.ntmps23
  go_wp2_with fail
  refine KG.out.mono ?_
  rintro e w1 ⟨rfl, hb1⟩
  have B1 : Hid (Below w.heap.size w w1) := hb1
  have hws : w.heap.size ≤ w1.heap.size := hb1.size
  clear hb1 KG
  cases r1 with
  | false =>
    have HZ : Hid (Z = []) := HNo.out rfl
    go_wp2
    go_ret
    exact ⟨_, rfl, by rw [HZ.out]; exact (HE.out w1).mono hws, B1.out.alloc hws _⟩
  | true =>
  go_wp2_with fail
  refine (KU.out _).mono ?_
  rintro e w2 ⟨rfl, rfl⟩
  cases r2 with
  | false =>
    have HZ : Hid (Z = []) := HNo.out rfl
    go_wp2
    go_ret
    exact ⟨_, rfl, by rw [HZ.out]; exact (HE.out w2).mono hws, B1.out.alloc hws _⟩
  | true =>
    have HZ : Hid (Z = Y) := HY.out rfl
    go_wp2_with fail
    refine (KO.out _ B1.out).mono ?_
    rintro e w3 ⟨v', rfl, hs3, hb3⟩
    have S3 : Hid (SliceG w3 w.heap.size v' Z) := by show SliceG _ _ _ _; rw [HZ.out]; exact hs3.mono hws
    have B3 : Hid (Below w.heap.size w w3) := B1.out.trans (hb3.mono hws)
    clear hs3 hb3
    go_wp2
    go_ret
    exact ⟨_, rfl, S3.out, B3.out⟩
theorem begin_drop (L : List Gr) (tp si : ByteArray) : mayG L tp si 0 = (grantsB L && siteG tp && siteG si) := by
  unfold mayG
  rw [show timeG 0 = true from rfl, Bool.and_true]
set_option maxRecDepth 10000 in
set_option maxHeartbeats 2000000 in
theorem specGrantDrop_any (v : Value) (L : List Gr) (tp si : ByteArray) (B : Nat) (w : World) (hs : SliceG w B v L) (hn : L.length ≤ 1048576) (h1 : tp.size ≤ 1048576) (h2 : si.size ≤ 1048576) :
    Calls Try.prog 21 #[v, .string tp, .string si] w fun e w' => ∃ v', e = .returned v' ∧ SliceG w' w.heap.size v' (dropL L tp si) ∧ Below w.heap.size w w' := by
  have KB : Hid (Calls Try.prog 57 #[v, .string tp, .string si, .int .i64 0] w fun e w' => e = .returned (.int .i64 (beginG L tp si 0)) ∧ Below w.heap.size w w') := specBegin8_any v L tp si 0 B w hs hn h1 h2
  have KD : Hid (∀ W, Below w.heap.size w W → Calls Try.prog 62 #[v, .string tp, .string si] W fun e w' => ∃ v', e = .returned v' ∧ SliceG w' W.heap.size v' (L.filter (fun g => !(isG tp si g))) ∧ Below W.heap.size W w') := fun W hb => specDrop8_any v L tp si B W (hs.below hb) hn
  have HNo : Hid (mayG L tp si 0 = false → dropL L tp si = []) := fun h => by rw [begin_drop] at h; unfold dropL; rw [if_neg (by rw [h]; decide)]
  have HY : Hid (mayG L tp si 0 = true → dropL L tp si = L.filter (fun g => !(isG tp si g))) := fun h => by rw [begin_drop] at h; unfold dropL; rw [if_pos h]
  have HE : Hid (∀ W : World, SliceG (W.alloc (.cells #[] 64)) W.heap.size (.slice (some ⟨W.heap.size, 0, none⟩) 0 0) []) := fun W => sliceG_of_own (World.ownsRow_made W #[] 0 (Nat.le_refl _) (Nat.zero_le _) rfl)
  have HZ0 := begin_zero (L := L) (tp := tp) (si := si) (now := 0)
  clear hs
  generalize dropL L tp si = Z at *
  generalize L.filter (fun g => !(isG tp si g)) = Y at *
  generalize mayG L tp si 0 = r1 at *
  generalize beginG L tp si 0 = c at *
  rcases HZ0 with ⟨rfl, rfl⟩ | ⟨hc, rfl⟩
  · have HZ : Hid (Z = Y) := HY.out rfl
    go_enter Try.func21, Try.ntmps21
    go_wp2_with fail
    refine KB.out.mono ?_
    rintro e w1 ⟨rfl, hb1⟩
    have B1 : Hid (Below w.heap.size w w1) := hb1
    have hws : w.heap.size ≤ w1.heap.size := hb1.size
    clear hb1
    go_wp2_with fail
    refine (KD.out _ B1.out).mono ?_
    rintro e w3 ⟨v', rfl, hs3, hb3⟩
    have S3 : Hid (SliceG w3 w.heap.size v' Z) := by show SliceG _ _ _ _; rw [HZ.out]; exact hs3.mono hws
    have B3 : Hid (Below w.heap.size w w3) := B1.out.trans (hb3.mono hws)
    clear hs3 hb3
    go_wp2
    go_ret
    exact ⟨_, rfl, S3.out, B3.out⟩
  · have q : (c != 0) = true := by rw [bne_iff_ne]; omega
    have HZ : Hid (Z = []) := HNo.out rfl
    clear hc KD
    go_enter Try.func21, Try.ntmps21
    go_wp2_with fail
    refine KB.out.mono ?_
    rintro e w1 ⟨rfl, hb1⟩
    go_wp2
    go_ret
    exact ⟨_, rfl, by rw [HZ.out]; exact (HE.out w1).mono hb1.size, hb1.alloc hb1.size _⟩
end Go.Proofs.Ytecaeolgheefmaa

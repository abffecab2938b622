/- The walk of the program's copiesOf at Grants. Written by implcopies.py. -/
import Derived.Test.YtehnklgpdjfcgaaLeaveT
import Derived.Test.YtehnklgpdjfcgaaGrantOwn
import Derived.Deep.RegionHeld3
import Derived.Deep.DeepCutAuto
namespace Go.Proofs.Ytehnklgpdjfcgaa
open Go.RowKit

set_option maxRecDepth 10000 in
set_option maxHeartbeats 8000000 in
theorem copiesG_any (v : Value) (L : List Gr) (B : Nat) (w : World) (hs : SliceG w B v L) (hn : L.length ≤ 1048576)
    (hc : ∀ j, j < L.length → ∀ W, Calls Try.prog 44 #[grV (atG L j)] W fun e w' => e = .returned (grV (atG L j)) ∧ Below W.heap.size W w') :
    Calls Try.prog 43 #[v, .func (.func 44) #[] #[]] w fun e w' => ∃ v', e = .returned v' ∧ w'.ownsRow w.heap.size 62 3 v' L.length (grCells L) ∧ (L.length = 0 → v' = .slice none 0 0) ∧ Below w.heap.size w w' := by
  have KC : Hid (∀ j, j < L.length → ∀ W, Calls Try.prog 44 #[grV (atG L j)] W fun e w' => e = .returned (grV (atG L j)) ∧ Below W.heap.size W w') := hc
  have HSY : Hid (∀ k, k < L.length → ∀ (v : Value) (w' : World), w'.ownsRow w.heap.size 62 3 v (k + 1) (grCells (L.take k) ++ grVals (atG L k)) → w'.ownsRow w.heap.size 62 3 v (k + 1) (grCells (L.take (k + 1)))) := fun k hlt v w' h => by
    rw [List.take_succ_eq_append_getElem hlt, ← show atG L k = L[k] from by simp [atG, hlt], ← grCells_snoc]; exact h
  obtain ⟨i0, hi, hy0, hy1, hy2⟩ := info_parts infoGrant
  obtain ⟨⟨q, cap, rfl, hg⟩, -⟩ := hs
  have HG : Hid (0 < L.length → ∃ g, q = some ⟨g, 0, none⟩ ∧ g < w.heap.size ∧ ∀ j, j < L.length → ∀ o, o < 3 → w.cell? ⟨g, j * 3 + o, none⟩ = some (grC (atG L j) o)) := fun h0 => by
    obtain ⟨g, e, -, hgw, hc⟩ := hg h0
    exact ⟨g, e, hgw, fun j hj o ho => (hc j hj o ho).1⟩
  clear hg hc
  go_enter Try.func43, Try.ntmps43
  go_wp2
  go_loopw [5, 10] (fun v i wr => ∃ k : Nat, k ≤ L.length ∧ i = .int .i64 k ∧ Hid (wr.ownsRow w.heap.size 62 3 v k (grCells (L.take k))) ∧ Hid (Below w.heap.size w wr) ∧ Hid (k = 0 → v = .slice none 0 0)) (fun _ i _ => L.length - (intOf i).toNat)
  case atStart => exact ⟨0, Nat.zero_le _, rfl, World.ownsRow_nil _ _ _ _, Below.refl _ _, fun _ => rfl⟩
  case round =>
    obtain ⟨k, hk, rfl, HO, HB, HN⟩ := hrel
    have hws : w.heap.size ≤ wr.heap.size := HB.out.size
    by_cases hlt : k < L.length
    · obtain ⟨g, rfl, hgw, hc⟩ := HG.out (by omega)
      have HC : Hid (∀ j, j < L.length → ∀ o, o < 3 → w.cell? ⟨g, j * 3 + o, none⟩ = some (grC (atG L j) o)) := hc
      have k0 : (0 : Int) ≤ k := by omega
      have k1 : (k : Int) < L.length := by omega
      have HKY := HSY.out k hlt
      have KC0 := KC.out k hlt
      clear hc
      have c0 : wr.cell? ⟨g, k * 3, none⟩ = some (.string (atG L k).tp) := by rw [(bcell HB.out).1 _ _ hgw]; exact HC.out k hlt 0 (by omega)
      have c1 : wr.cell? ⟨g, k * 3 + 1, none⟩ = some (.string (atG L k).si) := by rw [(bcell HB.out).1 _ _ hgw]; exact HC.out k hlt 1 (by omega)
      have c2 : wr.cell? ⟨g, k * 3 + 2, none⟩ = some (.int .i64 (atG L k).un) := by rw [(bcell HB.out).1 _ _ hgw]; exact HC.out k hlt 2 (by omega)
      generalize atG L k = y at *
      obtain ⟨ytp, ysi, yun⟩ := y
      unfold grV at KC0
      dsimp only at *
      generalize L.take k = Y at *
      obtain ⟨W0, hW⟩ : ∃ W0, W0 = wr.alloc (.cells #[.string ytp, .string ysi, .int .i64 yun] 62) := ⟨_, rfl⟩
      have hW0 : Hid (W0 = wr.alloc (.cells #[.string ytp, .string ysi, .int .i64 yun] 62)) := hW
      have HBr : Hid (Below wr.heap.size wr W0) := by show Below _ _ _; rw [hW]; exact (Below.refl _ _).alloc (Nat.le_refl _) _
      have n0 : W0.cell? ⟨wr.heap.size, 0, none⟩ = some (.string ytp) := by rw [hW]; simp
      have n1 : W0.cell? ⟨wr.heap.size, 1, none⟩ = some (.string ysi) := by rw [hW]; simp
      have n2 : W0.cell? ⟨wr.heap.size, 2, none⟩ = some (.int .i64 yun) := by rw [hW]; simp
      have hbW : wr.heap.size < W0.heap.size := by rw [hW]; simp
      have KC1 : Hid (∀ W, Calls Try.prog 44 #[.agg #[.string ytp, .string ysi, .int .i64 yun]] W fun e w' => e = .returned (.agg #[.string ytp, .string ysi, .int .i64 yun]) ∧ Below W.heap.size W w') := KC0
      have HKY1 : Hid (∀ (v : Value) (w' : World), w'.ownsRow w.heap.size 62 3 v (k + 1) (grCells Y ++ grVals ⟨ytp, ysi, yun⟩) → w'.ownsRow w.heap.size 62 3 v (k + 1) (grCells (L.take (k + 1)))) := HKY
      clear hW KC0 HKY
      go_upto_region 5 with fail
      rw [← hW0.out]
      clear hW0 c0 c1 c2
      generalize hbb : wr.heap.size = b at *
      go_wp2_with fail
      refine (KC1.out _).mono ?_
      rintro e w3 ⟨rfl, hb3⟩
      have A3 : Below b wr w3 := HBr.out.trans (hb3.mono (Nat.le_of_lt hbW))
      have O3 : Hid (∀ v : Value, wr.ownsRow w.heap.size 62 3 v k (grCells Y) → w3.ownsRow w.heap.size 62 3 v k (grCells Y)) := fun v h => ownR_below h (by rw [hbb]; exact A3)
      have B3 : Hid (Below w.heap.size w w3) := HB.out.trans (by rw [← hbb] at A3; exact A3.mono HB.out.size)
      have O4 : Hid (w3.ownsRow w.heap.size 62 3 _ k (grCells Y)) := O3.out _ HO.out
      have hw3 : w.heap.size ≤ w3.heap.size := B3.out.size
      clear hb3 A3 HO O3 HB HBr n0 n1 n2
      go_wp2_with (at_builtin; go_must (refine wpList_append_own _ rfl _ _ 24 rfl w.heap.size 62 i0 (.agg #[.string ⟨#[]⟩, .string ⟨#[]⟩, .int .i64 0]) 3 40 Try.underlying24 hi hy0 hy1 hy2 rfl (by decide) _ _ _ rfl (O4.out.alloc _) ⟨w3.heap.size, 0, none⟩ 1 1 (grVals ⟨ytp, ysi, yun⟩) rfl rfl (cell_Gr _ ⟨ytp, ysi, yun⟩ _) (one_Gr ⟨ytp, ysi, yun⟩) (by unfold maxLen; omega) (by omega) (by simp; omega) ?_))
      intro v1 w4 ho1 hg1 hn1
      have hb4 : Below w.heap.size w w4 := (B3.out.alloc B3.out.size _).grown hg1 (Nat.le_trans B3.out.size (by simp)) (fun j hj => own_base O4.out j hj)
      have O5 : Hid (w4.ownsRow w.heap.size 62 3 v1 (k + 1) (grCells (L.take (k + 1)))) := HKY1.out _ _ ho1
      have B4 : Hid (Below w.heap.size w w4) := hb4
      clear ho1 hg1 hn1 hb4
      go_wp2
      go_roundw
      case rel => exact ⟨k + 1, by omega, by go_num, O5, B4, fun h => absurd h (by omega)⟩
      case measure => simp [intOf]; omega
    · obtain rfl : k = L.length := by omega
      rw [List.take_length] at HO
      go_wp2
      go_ret
      exact ⟨_, rfl, HO.out, HN.out, HB.out⟩
end Go.Proofs.Ytehnklgpdjfcgaa

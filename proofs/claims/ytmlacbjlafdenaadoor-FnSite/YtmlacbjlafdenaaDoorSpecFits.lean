/- The walk of the specification's l03Fits. -/
import Derived.Test.YtmlacbjlafdenaaDoorStrsIn
namespace Go.Proofs.YtmlacbjlafdenaaDoor
open Go.RowKit

def fitAt (f1 f2 : Nat → ByteArray) (d i : Nat) : Bool := ((f1 i).toList == [42]) || ((f1 i).toList == (f2 (d + i)).toList)
/-- are the n1 texts f1 the last ones of the n2 texts f2, a star any one? -/
def fitsB (n1 : Nat) (f1 : Nat → ByteArray) (n2 : Nat) (f2 : Nat → ByteArray) : Bool := decide (n1 ≤ n2) && decide (∀ i, i < n1 → fitAt f1 f2 (n2 - n1) i = true)
theorem fitsB_long {n1 n2 : Nat} {f1 f2 : Nat → ByteArray} (h : n2 < n1) : fitsB n1 f1 n2 f2 = false := by unfold fitsB; rw [decide_eq_false (by omega)]; rfl
theorem fitsB_at {n1 d : Nat} {f1 f2 : Nat → ByteArray} (k : Nat) (h : k < n1) (hk : fitAt f1 f2 d k = false) : fitsB n1 f1 (d + n1) f2 = false := by
  unfold fitsB
  rw [Nat.add_sub_cancel, decide_eq_false (p := ∀ i, i < n1 → fitAt f1 f2 d i = true) (fun h' => by rw [h' k h] at hk; cases hk), Bool.and_false]
theorem fitsB_all {n1 d : Nat} {f1 f2 : Nat → ByteArray} (h : ∀ i, i < n1 → fitAt f1 f2 d i = true) : fitsB n1 f1 (d + n1) f2 = true := by
  unfold fitsB
  rw [Nat.add_sub_cancel, decide_eq_true h, decide_eq_true (show n1 ≤ d + n1 by omega)]; rfl

set_option maxRecDepth 10000 in
set_option maxHeartbeats 1000000 in
theorem specFits_any (v1 v2 : Value) (n1 n2 B1 B2 : Nat) (f1 f2 : Nat → ByteArray) (w : World) (h1 : SliceS w B1 v1 n1 f1) (h2 : SliceS w B2 v2 n2 f2) (l1 : n1 ≤ 1048576) (l2 : n2 ≤ 1048576) :
    Calls Tryd.prog 125 #[v1, v2] w fun e w' => e = .returned (.bool (fitsB n1 f1 n2 f2)) ∧ Below w.heap.size w w' := by
  obtain ⟨p1, c1, rfl, g1⟩ := h1
  obtain ⟨p2, c2, rfl, g2⟩ := h2
  have G1 : Hid (0 < n1 → ∃ g, p1 = some ⟨g, 0, none⟩ ∧ B1 ≤ g ∧ g < w.heap.size ∧ ∀ j, j < n1 → w.cell? ⟨g, j, none⟩ = some (.string (f1 j)) ∧ w.frozen? ⟨g, j, none⟩ = false) := g1
  have G2 : Hid (0 < n2 → ∃ g, p2 = some ⟨g, 0, none⟩ ∧ B2 ≤ g ∧ g < w.heap.size ∧ ∀ j, j < n2 → w.cell? ⟨g, j, none⟩ = some (.string (f2 j)) ∧ w.frozen? ⟨g, j, none⟩ = false) := g2
  clear g1 g2
  by_cases hl : n2 < n1
  · have HQ : Hid (fitsB n1 f1 n2 f2 = false) := fitsB_long hl
    have q : decide ((0 : Int) ≤ (n2 : Int) - (n1 : Int)) = false := by rw [decide_eq_false_iff_not]; omega
    have hp : 0 < n1 := by omega
    go_enter Tryd.func125, Tryd.ntmps125
    go_wp2
    go_loop [6] (fun i => i = .int .i64 0) (fun _ => 0)
    case atStart => rfl
    case round =>
      subst hrel
      go_wp2
      go_ret
      exact ⟨ret_bool HQ.out.symm, Below.refl _ _⟩
  obtain ⟨d, rfl⟩ : ∃ d, n2 = d + n1 := ⟨n2 - n1, by omega⟩
  have HA : Hid ((∀ k, k < n1 → fitAt f1 f2 d k = false → fitsB n1 f1 (d + n1) f2 = false) ∧ ((∀ i, i < n1 → fitAt f1 f2 d i = true) → fitsB n1 f1 (d + n1) f2 = true)) := ⟨fun k h hk => fitsB_at k h hk, fun h => fitsB_all h⟩
  generalize fitsB n1 f1 (d + n1) f2 = R at *
  clear hl
  have hd : (d : Int) + (n1 : Int) - (n1 : Int) = d := by omega
  have hd0 : (0 : Int) ≤ d := by omega
  go_enter Tryd.func125, Tryd.ntmps125
  go_wp2
  go_loopw [6] (fun i wr => ∃ k : Nat, k ≤ n1 ∧ i = .int .i64 k ∧ Hid (Below w.heap.size w wr) ∧ Hid (∀ j, j < k → fitAt f1 f2 d j = true)) (fun i _ => n1 - (intOf i).toNat)
  case atStart => exact ⟨0, Nat.zero_le _, rfl, Below.refl _ _, fun j hj => absurd hj (by omega)⟩
  case round =>
    obtain ⟨k, hk, rfl, HB, HR⟩ := hrel
    by_cases hlt : k < n1
    · obtain ⟨a, rfl, -, ha, hca⟩ := G1.out (by omega)
      obtain ⟨b, rfl, -, hb, hcb⟩ := G2.out (by omega)
      have d1 : wr.cell? ⟨a, k, none⟩ = some (.string (f1 k)) := by rw [(bcell HB.out).1 _ _ ha]; exact (hca k hlt).1
      have d2 : wr.cell? ⟨b, d + k, none⟩ = some (.string (f2 (d + k))) := by rw [(bcell HB.out).1 _ _ hb]; exact (hcb (d + k) (by omega)).1
      have k0 : (0 : Int) ≤ k := by omega
      have k1 : (k : Int) < n1 := by omega
      have k2 : (0 : Int) ≤ (d : Int) + k := by omega
      have k3 : (d : Int) + k < (d : Int) + n1 := by omega
      have hw : IntKind.i64.wrap ((d : Int) + (k : Int)) = (d : Int) + (k : Int) := by rw [IntKind.wrap_i64]; omega
      clear hca hcb
      cases hs : ((f1 k).toList == [42]) with
      | true =>
        have HK : Hid (fitAt f1 f2 d k = true) := by show _ = _; rw [fitAt, hs]; rfl
        generalize f1 k = t at *
        go_wp2
        go_region
        go_wp2
        go_roundw
        case rel =>
          refine ⟨k + 1, by omega, by go_num, HB.out.drew, ?_⟩
          intro j hj
          by_cases e : j = k
          · subst e; exact HK.out
          · exact HR.out j (by omega)
        case measure => simp [intOf]; omega
      | false =>
        cases hsame : ((f1 k).toList == (f2 (d + k)).toList) with
        | true =>
          have HK : Hid (fitAt f1 f2 d k = true) := by show _ = _; rw [fitAt, hs, hsame]; rfl
          generalize f1 k = t at *
          generalize f2 (d + k) = s at *
          go_wp2
          go_region
          go_wp2
          go_roundw
          case rel =>
            refine ⟨k + 1, by omega, by go_num, HB.out.drew, ?_⟩
            intro j hj
            by_cases e : j = k
            · subst e; exact HK.out
            · exact HR.out j (by omega)
          case measure => simp [intOf]; omega
        | false =>
          have HQ : Hid (R = false) := HA.out.1 k hlt (by rw [fitAt, hs, hsame]; rfl)
          generalize f1 k = t at *
          generalize f2 (d + k) = s at *
          go_wp2
          go_region
          go_wp2
          go_ret
          exact ⟨ret_bool HQ.out.symm, HB.out.drew⟩
    · go_wp2
      go_ret
      exact ⟨ret_bool (HA.out.2 (fun i hi => HR.out i (by omega))).symm, HB.out⟩
end Go.Proofs.YtmlacbjlafdenaaDoor

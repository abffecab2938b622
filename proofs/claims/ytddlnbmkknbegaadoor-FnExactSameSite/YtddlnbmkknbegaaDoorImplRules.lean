/- The walk of the program's RulesRight. -/
import Derived.Test.YtddlnbmkknbegaaDoorImplRule
import Derived.Test.YtddlnbmkknbegaaDoorSpecRules
namespace Go.Proofs.YtddlnbmkknbegaaDoor
open Go.RowKit

theorem rulesB_many {n : Nat} {f : Nat → ByteArray} (h : 20 < n) : rulesB n f = false := by unfold rulesB; rw [decide_eq_false (show ¬ n ≤ 20 by omega), Bool.and_false]

set_option maxRecDepth 10000 in
set_option maxHeartbeats 1000000 in
theorem rulesRight_any (v : Value) (n B : Nat) (f : Nat → ByteArray) (w : World) (hG : MaxI w) (hs : SliceS w B v n f) (hn : n ≤ 1048576) (hf : ∀ i, i < n → (f i).size ≤ 1048576) :
    Calls Tryd.prog 23 #[v] w fun e w' => e = .returned (.bool (rulesB n f)) ∧ Below w.heap.size w w' := by
  obtain ⟨p, cap, rfl, hg⟩ := hs
  by_cases h20 : 20 < n
  · have HR : Hid (rulesB n f = false) := rulesB_many h20
    go_enter Tryd.func23, Tryd.ntmps23
    go_wp2
    go_ret
    exact ⟨ret_bool HR.out.symm, Below.refl _ _⟩
  have HG : Hid (0 < n → ∃ g, p = some ⟨g, 0, none⟩ ∧ B ≤ g ∧ g < w.heap.size ∧ ∀ j, j < n → w.cell? ⟨g, j, none⟩ = some (.string (f j)) ∧ w.frozen? ⟨g, j, none⟩ = false) := hg
  have HM : Hid (MaxI w) := hG
  have HF : Hid (∀ i, i < n → (f i).size ≤ 1048576) := hf
  have HA : Hid ((∀ k, k < n → okR f k = false → rulesB n f = false) ∧ ((∀ i, i < n → okR f i = true) → rulesB n f = true)) := ⟨fun k h hk => rulesB_at k h hk, fun h => by rw [rulesB_all h, decide_eq_true_iff]; omega⟩
  clear hg hf hG
  have q20 : decide ((20 : Int) < (n : Int)) = false := by rw [decide_eq_false_iff_not]; omega
  have hge : ∀ (t : TypeId) (a b : ByteArray), binOp .geq t (.string a) (.string b) = pure (.bool (!(Op.bytesLess a.toList b.toList))) := geq_text
  generalize rulesB n f = R at *
  go_enter Tryd.func23, Tryd.ntmps23
  go_wp2
  go_loopw [10] (fun i wr => ∃ k : Nat, k ≤ n ∧ i = .int .i64 k ∧ Hid (Below w.heap.size w wr) ∧ Hid (∀ j, j < k → okR f j = true)) (fun i _ => n - (intOf i).toNat)
  case atStart => exact ⟨0, Nat.zero_le _, rfl, Below.refl _ _, fun j hj => absurd hj (by omega)⟩
  case round =>
    obtain ⟨k, hk, rfl, HB, HR⟩ := hrel
    by_cases hlt : k < n
    · obtain ⟨g, rfl, -, hgw, hc⟩ := HG.out (by omega)
      have hz : g < wr.heap.size := Nat.lt_of_lt_of_le hgw HB.out.size
      have hck : wr.cell? ⟨g, k, none⟩ = some (.string (f k)) := by rw [(bcell HB.out).1 _ _ hgw]; exact (hc k hlt).1
      have KR0 := ruleRight_any (f k) wr (HM.out.on HB.out) (HF.out k hlt)
      have k0 : (0 : Int) ≤ k := by omega
      have k1 : (k : Int) < n := by omega
      cases hr : ruleB (f k) with
      | false =>
        have HQ : Hid (R = false) := HA.out.1 k hlt (by cases k with | zero => exact hr | succ m => rw [okR, hr]; rfl)
        rw [hr] at KR0
        have KR : Hid (Calls Tryd.prog 20 #[.string (f k)] wr fun e w' => e = .returned (.bool false) ∧ Below wr.heap.size wr w') := KR0
        clear KR0 hr hc
        generalize f k = t at *
        go_wp2_with (go_at_call 20; refine KR.out.mono ?_; rintro e w1 ⟨rfl, hb1⟩)
        go_ret
        exact ⟨ret_bool HQ.out.symm, HB.out.trans (hb1.mono HB.out.size)⟩
      | true =>
        rw [hr] at KR0
        have KR : Hid (Calls Tryd.prog 20 #[.string (f k)] wr fun e w' => e = .returned (.bool true) ∧ Below wr.heap.size wr w') := KR0
        clear KR0
        cases k with
        | zero =>
          have HO : Hid (okR f 0 = true) := hr
          clear hr hc
          generalize f 0 = t at *
          go_wp2_with (go_at_call 20; refine KR.out.mono ?_; rintro e w1 ⟨rfl, hb1⟩)
          go_roundw
          case rel => exact ⟨1, by omega, by go_num, HB.out.trans (hb1.mono HB.out.size), okR_succ HR.out HO.out⟩
          case measure => simp [intOf]; omega
        | succ m =>
          have hcm : wr.cell? ⟨g, m, none⟩ = some (.string (f m)) := by rw [(bcell HB.out).1 _ _ hgw]; exact (hc m (by omega)).1
          have HCM : Hid (∀ w1, Below wr.heap.size wr w1 → w1.cell? ⟨g, m, none⟩ = some (.string (f m))) := fun w1 hb1 => by rw [(bcell hb1).1 _ _ hz]; exact hcm
          have hw : ((m + 1 : Nat) : Int) - 1 = (m : Int) := by omega
          cases hl : Op.bytesLess (f m).toList (f (m + 1)).toList with
          | true =>
            have HO : Hid (okR f (m + 1) = true) := by show _ = _; rw [okR, hr, hl]; rfl
            clear hr hc hcm
            generalize f m = t0 at *
            generalize f (m + 1) = t at *
            go_wp2_with (go_at_call 20; refine KR.out.mono ?_; rintro e w1 ⟨rfl, hb1⟩; have hcm1 := HCM.out w1 hb1)
            go_roundw
            case rel => exact ⟨m + 2, by omega, by go_num, HB.out.trans (hb1.mono HB.out.size), okR_succ HR.out HO.out⟩
            case measure => simp [intOf]; omega
          | false =>
            have HQ : Hid (R = false) := HA.out.1 (m + 1) hlt (by rw [okR, hr, hl]; rfl)
            clear hr hc hcm
            generalize f m = t0 at *
            generalize f (m + 1) = t at *
            go_wp2_with (go_at_call 20; refine KR.out.mono ?_; rintro e w1 ⟨rfl, hb1⟩; have hcm1 := HCM.out w1 hb1)
            go_ret
            exact ⟨ret_bool HQ.out.symm, HB.out.trans (hb1.mono HB.out.size)⟩
    · go_wp2
      go_ret
      exact ⟨ret_bool (HA.out.2 (fun i hi => HR.out i (by omega))).symm, HB.out⟩
end Go.Proofs.YtddlnbmkknbegaaDoor

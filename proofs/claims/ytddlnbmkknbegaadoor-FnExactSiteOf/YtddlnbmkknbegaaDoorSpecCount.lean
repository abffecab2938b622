/- The walk of the specification's l03Count. -/
import Derived.Test.YtddlnbmkknbegaaDoorSpecRuleL
import Derived.Test.YtddlnbmkknbegaaDoorSpecFits
import Derived.Test.YtddlnbmkknbegaaDoorAtL
namespace Go.Proofs.YtddlnbmkknbegaaDoor
open Go.RowKit

/-- does the rule fit the m labels h? -/
def fitR (s : ByteArray) (m : Nat) (h : Nat → ByteArray) : Bool := fitsB (ruleL s).length (atL (ruleL s)) m h
/-- of the first i rules: the most labels of a plain one that fits (at least 1), and of one with an exclamation mark -/
def cntTo (f : Nat → ByteArray) (m : Nat) (h : Nat → ByteArray) : Nat → Nat × Nat
  | 0 => (1, 0)
  | i + 1 => if fitR (f i) m h = true then (if bangB (f i) = true then ((cntTo f m h i).1, max (cntTo f m h i).2 (ruleL (f i)).length) else (max (cntTo f m h i).1 (ruleL (f i)).length, (cntTo f m h i).2)) else cntTo f m h i
def countN (n : Nat) (f : Nat → ByteArray) (m : Nat) (h : Nat → ByteArray) : Nat := if 0 < (cntTo f m h n).2 then (cntTo f m h n).2 - 1 else (cntTo f m h n).1
theorem ruleL_len (s : ByteArray) : (ruleL s).length ≤ s.size + 1 := by
  unfold ruleL
  split
  · have := splitB_len (s.extract 1 s.size) 46
    rw [ByteArray.size_extract] at this
    omega
  · exact splitB_len s 46

set_option maxRecDepth 10000 in
set_option maxHeartbeats 2000000 in
theorem specCount_any (v1 v2 : Value) (n m B1 B2 : Nat) (f h : Nat → ByteArray) (w : World) (h1 : SliceS w B1 v1 n f) (h2 : SliceS w B2 v2 m h) (l1 : n ≤ 1048576) (l2 : m ≤ 1048576) (hf : ∀ i, i < n → 0 < (f i).size ∧ (f i).size ≤ 1000) :
    Calls Tryd.prog 68 #[v1, v2] w fun e w' => e = .returned (.int .i64 (countN n f m h : Nat)) ∧ Below w.heap.size w w' := by
  have H2 : Hid (SliceS w B2 v2 m h) := h2
  have HF : Hid (∀ i, i < n → 0 < (f i).size ∧ (f i).size ≤ 1000) := hf
  obtain ⟨p1, c1, rfl, g1⟩ := h1
  have G1 : Hid (0 < n → ∃ g, p1 = some ⟨g, 0, none⟩ ∧ B1 ≤ g ∧ g < w.heap.size ∧ ∀ j, j < n → w.cell? ⟨g, j, none⟩ = some (.string (f j)) ∧ w.frozen? ⟨g, j, none⟩ = false) := g1
  clear g1 h2 hf
  go_enter Tryd.func68, Tryd.ntmps68
  go_wp2
  go_loopw [5, 6, 7] (fun b x i wr => ∃ k p q : Nat, k ≤ n ∧ p ≤ 1001 ∧ q ≤ 1001 ∧ b = .int .i64 p ∧ x = .int .i64 q ∧ i = .int .i64 k ∧ Hid (Below w.heap.size w wr) ∧ Hid (cntTo f m h k = (p, q))) (fun _ _ i _ => n - (intOf i).toNat)
  case atStart => exact ⟨0, 1, 0, Nat.zero_le _, by omega, by omega, rfl, rfl, rfl, Below.refl _ _, rfl⟩
  case round =>
    obtain ⟨k, p, q, hk, hp, hq, rfl, rfl, rfl, HB, HR⟩ := hrel
    by_cases hlt : k < n
    · obtain ⟨g, rfl, -, hgw, hc⟩ := G1.out (by omega)
      have hck : wr.cell? ⟨g, k, none⟩ = some (.string (f k)) := by rw [(bcell HB.out).1 _ _ hgw]; exact (hc k hlt).1
      have hz : g < wr.heap.size := Nat.lt_of_lt_of_le hgw HB.out.size
      obtain ⟨f0, f1⟩ := HF.out k hlt
      have hrl := ruleL_len (f k)
      have KL : Hid (∀ W, Calls Tryd.prog 83 #[.string (f k)] W fun e w' => ∃ v, e = .returned v ∧ w'.ownsRow W.heap.size 9 1 v (ruleL (f k)).length (strCells (ruleL (f k))) ∧ Below W.heap.size W w') := fun W => specRuleL_any (f k) W f0 (by omega)
      have HN : Hid (cntTo f m h (k + 1) = if fitR (f k) m h = true then (if bangB (f k) = true then ((cntTo f m h k).1, max (cntTo f m h k).2 (ruleL (f k)).length) else (max (cntTo f m h k).1 (ruleL (f k)).length, (cntTo f m h k).2)) else cntTo f m h k) := rfl
      rw [HR.out] at HN
      have k0 : (0 : Int) ≤ k := by omega
      have k1 : (k : Int) < n := by omega
      clear hc
      go_wp2_with fail
      refine (KL.out _).mono ?_
      rintro e w1 ⟨v, rfl, ho, hb1⟩
      have sl := slice_of_own ho
      have B1' : Hid (Below w.heap.size w w1) := HB.out.trans (hb1.mono HB.out.size)
      have hck1 : w1.cell? ⟨g, k, none⟩ = some (.string (f k)) := by rw [(bcell hb1).1 _ _ hz]; exact hck
      have hz1 : g < w1.heap.size := Nat.lt_of_lt_of_le hz hb1.size
      obtain ⟨pv, cv, rfl, -⟩ := sl
      have KF : Hid (Calls Tryd.prog 84 #[.slice pv (ruleL (f k)).length cv, v2] w1 fun e w' => e = .returned (.bool (fitR (f k) m h)) ∧ Below w1.heap.size w1 w') := specFits_any _ v2 _ m _ B2 _ h w1 (slice_of_own ho) (H2.out.below B1'.out) (by omega) l2
      generalize (ruleL (f k)).length = r at *
      generalize fitR (f k) m h = fb at *
      clear ho hb1
      cases fb with
      | false =>
        rw [if_neg (by decide)] at HN
        go_wp2_with (go_at_call 84; refine KF.out.mono ?_; rintro e w2 ⟨rfl, hb2⟩; have B2' : Hid (Below w.heap.size w w2) := B1'.out.trans (hb2.mono B1'.out.size))
        go_roundw
        case rel => exact ⟨k + 1, p, q, by omega, hp, hq, rfl, rfl, by go_num, B2', HN⟩
        case measure => simp [intOf]; omega
      | true =>
        rw [if_pos rfl] at HN
        by_cases h33 : (f k)[0].toNat = 33
        · rw [if_pos (bangB_yes f0 h33)] at HN
          have q1 : (((f k)[0].toNat : Int) == 33) = true := by rw [beq_iff_eq]; omega
          clear h33
          generalize f k = t at *
          by_cases hrq : q < r
          · have q2 : decide ((q : Int) < (r : Int)) = true := by rw [decide_eq_true_iff]; omega
            go_wp2_with (go_at_call 84; refine KF.out.mono ?_; rintro e w2 ⟨rfl, hb2⟩; have B2' : Hid (Below w.heap.size w w2) := B1'.out.trans (hb2.mono B1'.out.size); have hck2 : w2.cell? ⟨g, k, none⟩ = some (.string t) := ((bcell hb2).1 _ _ hz1).trans hck1)
            go_roundw
            case rel => exact ⟨k + 1, p, r, by omega, hp, by omega, rfl, rfl, by go_num, B2', by rw [show max q r = r by omega] at HN; exact HN⟩
            case measure => simp [intOf]; omega
          · have q2 : decide ((q : Int) < (r : Int)) = false := by rw [decide_eq_false_iff_not]; omega
            go_wp2_with (go_at_call 84; refine KF.out.mono ?_; rintro e w2 ⟨rfl, hb2⟩; have B2' : Hid (Below w.heap.size w w2) := B1'.out.trans (hb2.mono B1'.out.size); have hck2 : w2.cell? ⟨g, k, none⟩ = some (.string t) := ((bcell hb2).1 _ _ hz1).trans hck1)
            go_roundw
            case rel => exact ⟨k + 1, p, q, by omega, hp, hq, rfl, rfl, by go_num, B2', by rw [show max q r = q by omega] at HN; exact HN⟩
            case measure => simp [intOf]; omega
        · rw [if_neg (by rw [bangB_no (by rintro ⟨_, h⟩; exact h33 h)]; decide)] at HN
          have q1 : (((f k)[0].toNat : Int) == 33) = false := by rw [beq_eq_false_iff_ne]; omega
          clear h33
          generalize f k = t at *
          by_cases hrp : p < r
          · have q2 : decide ((p : Int) < (r : Int)) = true := by rw [decide_eq_true_iff]; omega
            go_wp2_with (go_at_call 84; refine KF.out.mono ?_; rintro e w2 ⟨rfl, hb2⟩; have B2' : Hid (Below w.heap.size w w2) := B1'.out.trans (hb2.mono B1'.out.size); have hck2 : w2.cell? ⟨g, k, none⟩ = some (.string t) := ((bcell hb2).1 _ _ hz1).trans hck1)
            go_roundw
            case rel => exact ⟨k + 1, r, q, by omega, by omega, hq, rfl, rfl, by go_num, B2', by rw [show max p r = r by omega] at HN; exact HN⟩
            case measure => simp [intOf]; omega
          · have q2 : decide ((p : Int) < (r : Int)) = false := by rw [decide_eq_false_iff_not]; omega
            go_wp2_with (go_at_call 84; refine KF.out.mono ?_; rintro e w2 ⟨rfl, hb2⟩; have B2' : Hid (Below w.heap.size w w2) := B1'.out.trans (hb2.mono B1'.out.size); have hck2 : w2.cell? ⟨g, k, none⟩ = some (.string t) := ((bcell hb2).1 _ _ hz1).trans hck1)
            go_roundw
            case rel => exact ⟨k + 1, p, q, by omega, hp, hq, rfl, rfl, by go_num, B2', by rw [show max p r = p by omega] at HN; exact HN⟩
            case measure => simp [intOf]; omega
    · have hkn : k = n := by omega
      subst hkn
      have HQ : Hid (countN k f m h = if 0 < q then q - 1 else p) := by show _ = _; rw [countN, HR.out]
      by_cases hq0 : 0 < q
      · rw [if_pos hq0] at HQ
        have e : ((q : Int) - 1) = ((q - 1 : Nat) : Int) := by omega
        go_wp2
        go_ret
        exact ⟨ret_int (by first | (rw [HQ.out]; done) | (rw [HQ.out]; omega)), HB.out⟩
      · rw [if_neg hq0] at HQ
        have q0 : decide ((0 : Int) < (q : Int)) = false := by rw [decide_eq_false_iff_not]; omega
        go_wp2
        go_ret
        exact ⟨ret_int (by first | (rw [HQ.out]; done) | (rw [HQ.out]; omega)), HB.out⟩
end Go.Proofs.YtddlnbmkknbegaaDoor

/- The walk of the specification's RuleRight. -/
import Derived.Test.YtddlnbmkknbegaaDoorSpecHost
import Derived.Test.YtddlnbmkknbegaaDoorSpecFind
namespace Go.Proofs.YtddlnbmkknbegaaDoor
open Go.RowKit

/-- does it begin with an exclamation mark? -/
def bangB (s : ByteArray) : Bool := decide (∃ h : 0 < s.size, s[0].toNat = 33)
/-- does it begin with a star and a point, and go on? -/
def starB (s : ByteArray) : Bool := decide (2 < s.size) && ((s.extract 0 2).toList == [42, 46])
/-- a right rule -/
def ruleB (s : ByteArray) : Bool := if bangB s = true then hostB (s.extract 1 s.size) && decide (0 ≤ findI s ⟨#[46]⟩) else if starB s = true then hostB (s.extract 2 s.size) else hostB s
theorem bangB_yes {s : ByteArray} (h : 0 < s.size) (h1 : s[0].toNat = 33) : bangB s = true := by unfold bangB; rw [decide_eq_true_iff]; exact ⟨h, h1⟩
theorem bangB_no {s : ByteArray} (h : ¬ ∃ h : 0 < s.size, s[0].toNat = 33) : bangB s = false := by unfold bangB; rw [decide_eq_false_iff_not]; exact h
theorem ruleB_bang {s : ByteArray} (h : bangB s = true) : ruleB s = (hostB (s.extract 1 s.size) && decide (0 ≤ findI s ⟨#[46]⟩)) := by rw [ruleB, if_pos h]
theorem ruleB_star {s : ByteArray} (h : bangB s = false) (h2 : starB s = true) : ruleB s = hostB (s.extract 2 s.size) := by rw [ruleB, if_neg (by simp [h]), if_pos h2]
theorem ruleB_host {s : ByteArray} (h : bangB s = false) (h2 : starB s = false) : ruleB s = hostB s := by rw [ruleB, if_neg (by simp [h]), if_neg (by simp [h2])]

set_option maxRecDepth 10000 in
set_option maxHeartbeats 400000 in
theorem specRule_any (s : ByteArray) (w : World) (hs : s.size ≤ 1048576) :
    Calls Tryd.prog 19 #[.string s] w fun e w' => e = .returned (.bool (ruleB s)) ∧ Below w.heap.size w w' := by
  by_cases hb : ∃ h : 0 < s.size, s[0].toNat = 33
  · obtain ⟨hp, h33⟩ := hb
    have HR : Hid (ruleB s = (hostB (s.extract 1 s.size) && decide (0 ≤ findI s ⟨#[46]⟩))) := ruleB_bang (bangB_yes hp h33)
    have q1 : ((s[0].toNat : Int) == 33) = true := by rw [beq_iff_eq]; omega
    have H1 := fun W => specHost_any (s.extract 1 s.size) W
    have H2 := fun W => specFind_any s ⟨#[46]⟩ W hs (by decide)
    generalize hostB (s.extract 1 s.size) = b at *
    generalize findI s ⟨#[46]⟩ = f at *
    have G1 : Hid (∀ W, Calls Tryd.prog 41 #[.string (s.extract 1 s.size)] W fun e w' => e = .returned (.bool b) ∧ Below W.heap.size W w') := H1
    have G2 : Hid (∀ W, Calls Tryd.prog 43 #[.string s, .int .i64 0, .string ⟨#[46]⟩] W fun e w' => e = .returned (.int .i64 f) ∧ w' = W) := H2
    clear H1 H2 h33
    cases b with
    | false =>
      go_enter Tryd.func19, Tryd.ntmps19
      go_wp2_with (go_at_call 41; refine (G1.out _).mono ?_; rintro e w1 ⟨rfl, hb1⟩)
      go_ret
      exact ⟨ret_bool (by rw [HR.out]; rfl), hb1⟩
    | true =>
      go_enter Tryd.func19, Tryd.ntmps19
      go_wp2_with (first | (go_at_call 41; refine (G1.out _).mono ?_; rintro e w1 ⟨rfl, hb1⟩) | (go_at_call 43; refine (G2.out _).mono ?_; rintro e w2 ⟨rfl, rfl⟩))
      go_ret
      exact ⟨ret_bool (by rw [HR.out]; rfl), hb1⟩
  · have hbf := bangB_no hb
    cases hst : starB s with
    | true =>
      have HR : Hid (ruleB s = hostB (s.extract 2 s.size)) := ruleB_star hbf hst
      unfold starB at hst
      rw [Bool.and_eq_true, decide_eq_true_eq] at hst
      obtain ⟨h2, q3⟩ := hst
      have hp : 0 < s.size := by omega
      have q1 : ((s[0].toNat : Int) == 33) = false := by
        rw [beq_eq_false_iff_ne]
        intro e
        exact hb ⟨hp, by omega⟩
      have H1 := fun W => specHost_any (s.extract 2 s.size) W
      generalize hostB (s.extract 2 s.size) = b at *
      have G1 : Hid (∀ W, Calls Tryd.prog 41 #[.string (s.extract 2 s.size)] W fun e w' => e = .returned (.bool b) ∧ Below W.heap.size W w') := H1
      clear H1 hb hbf
      go_enter Tryd.func19, Tryd.ntmps19
      go_wp2_with (go_at_call 41; refine (G1.out _).mono ?_; rintro e w1 ⟨rfl, hb1⟩)
      go_ret
      exact ⟨ret_bool HR.out.symm, hb1⟩
    | false =>
      have HR : Hid (ruleB s = hostB s) := ruleB_host hbf hst
      have H1 := fun W => specHost_any s W
      generalize hostB s = b at *
      have G1 : Hid (∀ W, Calls Tryd.prog 41 #[.string s] W fun e w' => e = .returned (.bool b) ∧ Below W.heap.size W w') := H1
      clear H1
      unfold starB at hst
      by_cases h0 : 0 < s.size
      · have q1 : ((s[0].toNat : Int) == 33) = false := by
          rw [beq_eq_false_iff_ne]
          intro e
          exact hb ⟨h0, by omega⟩
        by_cases h2 : 2 < s.size
        · have q3 : ((s.extract 0 2).toList == [42, 46]) = false := by
            rw [decide_eq_true h2, Bool.true_and] at hst; exact hst
          clear hst hb hbf
          go_enter Tryd.func19, Tryd.ntmps19
          go_wp2_with (go_at_call 41; refine (G1.out _).mono ?_; rintro e w1 ⟨rfl, hb1⟩)
          go_ret
          exact ⟨ret_bool HR.out.symm, hb1⟩
        · have q2 : decide ((2 : Int) < (s.size : Int)) = false := by rw [decide_eq_false_iff_not]; omega
          clear hst hb hbf
          go_enter Tryd.func19, Tryd.ntmps19
          go_wp2_with (go_at_call 41; refine (G1.out _).mono ?_; rintro e w1 ⟨rfl, hb1⟩)
          go_ret
          exact ⟨ret_bool HR.out.symm, hb1⟩
      · have q0 : decide ((0 : Int) < (s.size : Int)) = false := by rw [decide_eq_false_iff_not]; omega
        have q2 : decide ((2 : Int) < (s.size : Int)) = false := by rw [decide_eq_false_iff_not]; omega
        clear hst hb hbf
        go_enter Tryd.func19, Tryd.ntmps19
        go_wp2_with (go_at_call 41; refine (G1.out _).mono ?_; rintro e w1 ⟨rfl, hb1⟩)
        go_ret
        exact ⟨ret_bool HR.out.symm, hb1⟩
end Go.Proofs.YtddlnbmkknbegaaDoor

/- The laws FnExactRuleRight and FnExactRulesRight, walked, over what the program's functions answer. -/
import Derived.Test.YtddlnbmkknbegaaDoorSpecRule
import Derived.Test.YtddlnbmkknbegaaDoorSpecRules
namespace Go.Proofs.YtddlnbmkknbegaaDoor
open Go.RowKit

set_option maxRecDepth 10000 in
set_option maxHeartbeats 400000 in
theorem lawRule_of (w : World) (hI : ∀ (s : ByteArray) (W : World), Below w.heap.size w W → s.size ≤ 1048576 → Calls Tryd.prog 20 #[.string s] W fun e w' => e = .returned (.bool (ruleB s)) ∧ Below W.heap.size W w')
    (s : ByteArray) :
    Calls Tryd.prog 4 #[.string s] w fun e w' => e = .returned (.bool true) ∧ Below w.heap.size w w' := by
  by_cases h1 : 1048576 < s.size
  · go_enter Tryd.func4, Tryd.ntmps4
    go_wp2
    go_ret
    exact ⟨rfl, Below.refl _ _⟩
  · have H1 : Hid (∀ W, Calls Tryd.prog 19 #[.string s] W fun e w' => e = .returned (.bool (ruleB s)) ∧ Below W.heap.size W w') := fun W => specRule_any s W (by omega)
    have H2 : Hid (∀ W, Below w.heap.size w W → Calls Tryd.prog 20 #[.string s] W fun e w' => e = .returned (.bool (ruleB s)) ∧ Below W.heap.size W w') := fun W hb => hI s W hb (by omega)
    clear hI
    generalize ruleB s = b at *
    go_enter Tryd.func4, Tryd.ntmps4
    go_wp2_with fail
    refine (H1.out _).mono ?_
    rintro e w1 ⟨rfl, hb1⟩
    go_wp2_with fail
    refine (H2.out _ hb1).mono ?_
    rintro e w2 ⟨rfl, hb2⟩
    go_wp2
    go_ret
    exact ⟨rfl, hb1.trans (hb2.mono hb1.size)⟩
set_option maxRecDepth 10000 in
set_option maxHeartbeats 1000000 in
theorem lawRules_of (w : World) (hI : ∀ (v : Value) (n B : Nat) (f : Nat → ByteArray) (W : World), Below w.heap.size w W → SliceS W B v n f → n ≤ 1048576 → (∀ i, i < n → (f i).size ≤ 1048576) → Calls Tryd.prog 23 #[v] W fun e w' => e = .returned (.bool (rulesB n f)) ∧ Below W.heap.size W w')
    (a : Option Addr) (n cap : Nat) (f : Nat → ByteArray) (hr : StrRow w a n f) (hn : n ≤ maxLen) :
    Calls Tryd.prog 5 #[.slice a n cap] w fun e w' => e = .returned (.bool true) ∧ Below w.heap.size w w' := by
  have HR : Hid (StrRow w a n f) := hr
  have HI : Hid (∀ (v : Value) (n B : Nat) (f : Nat → ByteArray) (W : World), Below w.heap.size w W → SliceS W B v n f → n ≤ 1048576 → (∀ i, i < n → (f i).size ≤ 1048576) → Calls Tryd.prog 23 #[v] W fun e w' => e = .returned (.bool (rulesB n f)) ∧ Below W.heap.size W w') := hI
  clear hI hr
  go_enter Tryd.func5, Tryd.ntmps5
  go_wp2_with fail
  refine (szStringS_any a n cap f 1048576 _ HR.out hn (by decide) (by decide)).mono ?_
  rintro e w0 ⟨⟨r, rfl, hr⟩, rfl⟩
  rcases hr with hr | ⟨r0, r1, hl, hf⟩
  · go_wp2
    go_ret
    exact ⟨rfl, Below.refl _ _⟩
  have q : decide (r < 0) = false := by rw [decide_eq_false_iff_not]; omega
  have hl2 : n ≤ 1048576 := by omega
  have HF : Hid (∀ i, i < n → (f i).size ≤ 1048576) := fun i hi => by have := hf i hi; omega
  clear hf hl r0 r1
  go_wp2_with fail
  refine (toStringS_any a n cap f _ HR.out hl2).mono ?_
  rintro e w1 ⟨v1, rfl, s1, hb1⟩
  go_wp2_with fail
  refine (specRules_any v1 n _ f _ s1 hl2 HF.out).mono ?_
  rintro e w2 ⟨rfl, hb2⟩
  have B2 : Hid (Below w0.heap.size w0 w2) := hb1.trans (hb2.mono hb1.size)
  clear hb1 hb2 s1
  go_wp2_with fail
  refine (toStringS_any a n cap f _ (HR.out.below B2.out) hl2).mono ?_
  rintro e w3 ⟨v3, rfl, s3, hb3⟩
  have B3 : Hid (Below w0.heap.size w0 w3) := B2.out.trans (hb3.mono B2.out.size)
  clear hb3
  go_wp2_with fail
  refine (HI.out v3 n _ f _ B3.out s3 hl2 HF.out).mono ?_
  rintro e w4 ⟨rfl, hb4⟩
  have s4 := s3.below hb4
  have B4 : Hid (Below w0.heap.size w0 w4) := B3.out.trans (hb4.mono B3.out.size)
  clear hb4 s3
  generalize rulesB n f = R
  go_wp2_with fail
  refine (toStringS_any a n cap f _ (HR.out.below B4.out) hl2).mono ?_
  rintro e w5 ⟨v5, rfl, s5, hb5⟩
  have s45 := s4.below hb5
  have B5 : Hid (Below w0.heap.size w0 w5) := B4.out.trans (hb5.mono B4.out.size)
  clear hb5 s4
  go_wp2_with fail
  refine (eqStringS_any v3 v5 n _ _ f _ s45 s5 (by omega)).mono ?_
  rintro e w6 ⟨rfl, hb6⟩
  go_wp2
  go_ret
  exact ⟨rfl, B5.out.trans (hb6.mono B5.out.size)⟩
end Go.Proofs.YtddlnbmkknbegaaDoor

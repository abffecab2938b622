/- The law FnExactSuffixOf, walked, over what the program's SuffixOf answers. -/
import Derived.Test.YtddlnbmkknbegaaDoorSpecSuffix
namespace Go.Proofs.YtddlnbmkknbegaaDoor
open Go.RowKit

theorem same_text (a : ByteArray) : (a.toList == a.toList) = true := by simp
set_option maxRecDepth 10000 in
set_option maxHeartbeats 400000 in
theorem eqSuf_any (a b : ByteArray) (w : World) :
    Calls Tryd.prog 30 #[.agg #[.string a, .string b], .agg #[.string a, .string b]] w fun e w' => e = .returned (.bool true) ∧ Below w.heap.size w w' := by
  go_enter Tryd.func30, Tryd.ntmps30
  go_wp2
  go_ret
  exact ⟨rfl, ((Below.refl _ _).alloc (Nat.le_refl _) _).alloc (by simp) _⟩

set_option maxRecDepth 10000 in
set_option maxHeartbeats 2000000 in
theorem lawSuffixOf_of (w : World) (hI : ∀ (v : Value) (n B : Nat) (f : Nat → ByteArray) (s : ByteArray) (W : World), Below w.heap.size w W → SliceS W B v n f → n ≤ 1048576 → (∀ i, i < n → (f i).size ≤ 1048576) → s.size ≤ 1048576 → Calls Tryd.prog 29 #[v, .string s] W fun e w' => e = .returned (sufV (sufOf n f s).1 (sufOf n f s).2) ∧ Below W.heap.size W w')
    (a : Option Addr) (n cap : Nat) (f : Nat → ByteArray) (s : ByteArray) (hr : StrRow w a n f) (hn : n ≤ maxLen) :
    Calls Tryd.prog 7 #[.slice a n cap, .string s] w fun e w' => e = .returned (.bool true) ∧ Below w.heap.size w w' := by
  have HR : Hid (StrRow w a n f) := hr
  have HI : Hid (∀ (v : Value) (n B : Nat) (f : Nat → ByteArray) (s : ByteArray) (W : World), Below w.heap.size w W → SliceS W B v n f → n ≤ 1048576 → (∀ i, i < n → (f i).size ≤ 1048576) → s.size ≤ 1048576 → Calls Tryd.prog 29 #[v, .string s] W fun e w' => e = .returned (.agg #[.string (sufOf n f s).1, .string (sufOf n f s).2]) ∧ Below W.heap.size W w') := hI
  clear hI hr
  by_cases h1 : 1048576 < s.size
  · go_enter Tryd.func7, Tryd.ntmps7
    go_wp2
    go_ret
    exact ⟨rfl, Below.refl _ _⟩
  have q0 : decide ((1048576 : Int) < (s.size : Int)) = false := by rw [decide_eq_false_iff_not]; omega
  have hs : s.size ≤ 1048576 := by omega
  go_enter Tryd.func7, Tryd.ntmps7
  go_wp2_with fail
  refine (szStringS_any a n cap f 1048576 _ HR.out hn (by decide) (by decide)).mono ?_
  rintro e w0 ⟨⟨r, rfl, hr⟩, rfl⟩
  rcases hr with hr | ⟨r0, r1, hl, hf⟩
  · go_wp2
    go_ret
    exact ⟨rfl, Below.refl _ _⟩
  have q : decide (r < 0) = false := by rw [decide_eq_false_iff_not]; omega
  have hl2 : n ≤ 1048576 := by omega
  have HF : Hid (∀ i, i < n → (f i).size ≤ 1048576) := fun i hi => by have := hf i hi; omega
  clear hf hl r0 r1
  go_wp2_with fail
  refine (toStringS_any a n cap f _ HR.out hl2).mono ?_
  rintro e w1 ⟨v1, rfl, s1, hb1⟩
  have KS : Hid (Calls Tryd.prog 18 #[v1, .string s] w1 fun e w' => e = .returned (.agg #[.string (sufOf n f s).1, .string (sufOf n f s).2]) ∧ Below w1.heap.size w1 w') := specSuffix_any v1 n _ f s _ s1 hl2 HF.out
  have B1 : Hid (Below w0.heap.size w0 w1) := hb1
  have KI : Hid (∀ (v : Value) (B : Nat) (W : World), Below w0.heap.size w0 W → SliceS W B v n f → Calls Tryd.prog 29 #[v, .string s] W fun e w' => e = .returned (.agg #[.string (sufOf n f s).1, .string (sufOf n f s).2]) ∧ Below W.heap.size W w') := fun v B W a b => HI.out v n B f s W a b hl2 HF.out hs
  clear s1 hb1 HI
  generalize (sufOf n f s).1 = sA at *
  generalize (sufOf n f s).2 = sB at *
  go_wp2_with fail
  refine KS.out.mono ?_
  rintro e w2 ⟨rfl, hb2⟩
  have B2 : Hid (Below w0.heap.size w0 w2) := B1.out.trans (hb2.mono B1.out.size)
  clear hb2 KS
  have e0 : (w2.alloc (.cells #[.string sA, .string sB] 35)).cell? ⟨w2.heap.size, 0, none⟩ = some (.string sA) := by simp
  have e1 : (w2.alloc (.cells #[.string sA, .string sB] 35)).cell? ⟨w2.heap.size, 1, none⟩ = some (.string sB) := by simp
  have B3 : Hid (Below w0.heap.size w0 (w2.alloc (.cells #[.string sA, .string sB] 35))) := B2.out.alloc B2.out.size _
  have hz3 : w2.heap.size < (w2.alloc (.cells #[.string sA, .string sB] 35)).heap.size := by simp
  go_wp2_with fail
  generalize w2.alloc (.cells #[.string sA, .string sB] 35) = w3 at *
  refine (toStringS_any a n cap f _ (HR.out.below B3.out) hl2).mono ?_
  rintro e w4 ⟨v4, rfl, s4, hb4⟩
  have f0 : w4.cell? ⟨w2.heap.size, 0, none⟩ = some (.string sA) := by rw [(bcell hb4).1 _ _ hz3]; exact e0
  have f1 : w4.cell? ⟨w2.heap.size, 1, none⟩ = some (.string sB) := by rw [(bcell hb4).1 _ _ hz3]; exact e1
  have hz4 : w2.heap.size < w4.heap.size := Nat.lt_of_lt_of_le hz3 hb4.size
  have B4 : Hid (Below w0.heap.size w0 w4) := B3.out.trans (hb4.mono B3.out.size)
  have S4 : Hid (SliceS w4 w3.heap.size v4 n f) := s4
  clear hb4 s4 e0 e1
  go_wp2_with fail
  refine (KI.out v4 _ w4 B4.out S4.out).mono ?_
  rintro e w5 ⟨rfl, hb5⟩
  have g0 : w5.cell? ⟨w2.heap.size, 0, none⟩ = some (.string sA) := by rw [(bcell hb5).1 _ _ hz4]; exact f0
  have g1 : w5.cell? ⟨w2.heap.size, 1, none⟩ = some (.string sB) := by rw [(bcell hb5).1 _ _ hz4]; exact f1
  have hz5 : w2.heap.size < w5.heap.size := Nat.lt_of_lt_of_le hz4 hb5.size
  have B5 : Hid (Below w0.heap.size w0 w5) := B4.out.trans (hb5.mono B4.out.size)
  have S5 : Hid (SliceS w5 w3.heap.size v4 n f) := S4.out.below hb5
  have A6 : Hid (Below w5.heap.size w5 (w5.alloc (.cells #[.string sA, .string sB] 35))) := (Below.refl _ _).alloc (Nat.le_refl _) _
  clear hb5 f0 f1
  go_wp2_with fail
  refine (eqSuf_any sA sB _).mono ?_
  rintro e w6 ⟨rfl, hb6⟩
  have B56 : Hid (Below w5.heap.size w5 w6) := A6.out.trans (hb6.mono A6.out.size)
  have B6 : Hid (Below w0.heap.size w0 w6) := B5.out.trans (B56.out.mono B5.out.size)
  have S6 : Hid (SliceS w6 w3.heap.size v4 n f) := S5.out.below B56.out
  clear hb6
  go_wp2_with fail
  refine (toStringS_any a n cap f _ (HR.out.below B6.out) hl2).mono ?_
  rintro e w7 ⟨v7, rfl, s7, hb7⟩
  have S7 := S6.out.below hb7
  have B7 : Hid (Below w0.heap.size w0 w7) := B6.out.trans (hb7.mono B6.out.size)
  clear hb7
  go_wp2_with fail
  refine (eqStringS_any v4 v7 n _ _ f _ S7 s7 (by omega)).mono ?_
  rintro e w8 ⟨rfl, hb8⟩
  go_wp2
  go_ret
  exact ⟨rfl, B7.out.trans (hb8.mono B7.out.size)⟩
end Go.Proofs.YtddlnbmkknbegaaDoor

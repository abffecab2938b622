/- The law FnExactAreaUsed, walked. Written by lawcleared.py. -/
import Derived.Test.YtimmoclemcnhnaaSpecCleared
import Derived.Test.YtimmoclemcnhnaaImplUsed
import Derived.Test.YtimmoclemcnhnaaLawArea
namespace Go.Proofs.Ytimmoclemcnhnaa
open Go.RowKit

set_option maxRecDepth 10000 in
set_option maxHeartbeats 4000000 in
theorem lawAreaUsed_any (a : Option Addr) (cap : Nat) (L : List En) (key : ByteArray) (w : World) (hr : EnRow w a L) (hn : L.length ≤ maxLen) :
    Calls Try.prog 5 #[.slice a L.length cap, .string key] w fun e w' => e = .returned (.bool true) ∧ Below w.heap.size w w' := by
  have HR : Hid (EnRow w a L) := hr
  clear hr
  by_cases h1 : 1048576 < key.size
  · go_enter Try.func5, Try.ntmps5
    go_wp2
    go_ret
    exact ⟨rfl, Below.refl _ _⟩
  have hk1 : key.size ≤ 1048576 := by omega
  go_enter Try.func5, Try.ntmps5
  go_wp2_with fail
  refine (szEntryS_any a cap L 1048576 _ HR.out hn (by decide) (by decide)).mono ?_
  rintro e w0 ⟨⟨r, rfl, hr⟩, hb0⟩
  have B0 : Hid (Below w.heap.size w w0) := hb0
  clear hb0
  rcases hr with hr | ⟨r0, r1, hl, hf⟩
  · go_wp2
    go_ret
    exact ⟨rfl, B0.out⟩
  have q : decide (r < 0) = false := by rw [decide_eq_false_iff_not]; omega
  have HF : Hid (szE L) := hf
  clear hf r0 r1
  go_wp2_with fail
  refine (toEntryS_any a cap L _ (HR.out.below B0.out) hl).mono ?_
  rintro e w1 ⟨v1, rfl, s1, hb1⟩
  have B1 : Hid (Below w.heap.size w w1) := B0.out.trans (hb1.mono B0.out.size)
  have KS : Hid (Calls Try.prog 16 #[v1, .string key] w1 fun e w' => e = .returned (.int .i64 (usedI L key : Int)) ∧ Below w1.heap.size w1 w') := specAreaUsed_any v1 L key _ w1 s1 hl (fun i hi => by have := HF.out i hi; omega)
  have KI : Hid (∀ (v : Value) (B : Nat) (W : World), Below w.heap.size w W → SliceE W B v L → Calls Try.prog 17 #[v, .string key] W fun e w' => e = .returned (.int .i64 (usedI L key : Int)) ∧ Below W.heap.size W w') := fun v B W _ b => areaUsed_any v L key B W b hl (fun i hi => by have := HF.out i hi; omega)
  clear s1 hb1 HF
  generalize usedI L key = d at *
  go_wp2_with fail
  refine KS.out.mono ?_
  rintro e w2 ⟨rfl, hb2⟩
  have B2 : Hid (Below w.heap.size w w2) := B1.out.trans (hb2.mono B1.out.size)
  clear hb2 KS
  go_wp2_with fail
  refine (toEntryS_any a cap L _ (HR.out.below B2.out) hl).mono ?_
  rintro e w4 ⟨v4, rfl, s4, hb4⟩
  have B4 : Hid (Below w.heap.size w w4) := B2.out.trans (hb4.mono B2.out.size)
  have S4 : Hid (SliceE w4 w2.heap.size v4 L) := s4
  clear hb4 s4
  go_wp2_with fail
  refine (KI.out v4 _ w4 B4.out S4.out).mono ?_
  rintro e w5 ⟨rfl, hb5⟩
  have B5 : Hid (Below w.heap.size w w5) := B4.out.trans (hb5.mono B4.out.size)
  have S5 : Hid (SliceE w5 w2.heap.size v4 L) := S4.out.below hb5
  clear hb5
  go_wp2_with fail
  refine (toEntryS_any a cap L _ (HR.out.below B5.out) hl).mono ?_
  rintro e w7 ⟨v7, rfl, s7, hb7⟩
  have S7 := S5.out.below hb7
  have B7 : Hid (Below w.heap.size w w7) := B5.out.trans (hb7.mono B5.out.size)
  clear hb7
  go_wp2_with fail
  refine (eqEntryS_any v4 v7 L _ _ _ S7 s7 hl).mono ?_
  rintro e w8 ⟨rfl, hb8⟩
  go_wp2
  go_ret
  exact ⟨rfl, B7.out.trans (hb8.mono B7.out.size)⟩
end Go.Proofs.Ytimmoclemcnhnaa

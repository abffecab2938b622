/- The law FnExactGrantDrop, walked. Written by lawgrants.py. -/
import Derived.Test.YtehnklgpdjfcgaaSpecAsk8
import Derived.Test.YtehnklgpdjfcgaaImplOldDrop
import Derived.Test.YtehnklgpdjfcgaaMarkGrant
namespace Go.Proofs.Ytehnklgpdjfcgaa
open Go.RowKit

set_option maxRecDepth 10000 in
set_option maxHeartbeats 4000000 in
theorem lawGrantDrop_any (a : Option Addr) (cap : Nat) (L : List Gr) (tp si : ByteArray) (w : World) (hr : GrRow w a L) (hn : L.length ≤ maxLen) :
    Calls Try.prog 4 #[.slice a L.length cap, .string tp, .string si] w fun e w' => e = .returned (.bool true) ∧ Below w.heap.size w w' := by
  have HR : Hid (GrRow w a L) := hr
  clear hr
  by_cases hg1 : 1048576 < tp.size
  · go_enter Try.func4, Try.ntmps4
    go_wp2
    go_ret
    exact ⟨rfl, Below.refl _ _⟩
  have hk1 : tp.size ≤ 1048576 := by omega
  by_cases hg2 : 1048576 < si.size
  · go_enter Try.func4, Try.ntmps4
    go_wp2
    go_ret
    exact ⟨rfl, Below.refl _ _⟩
  have hk2 : si.size ≤ 1048576 := by omega
  go_enter Try.func4, Try.ntmps4
  go_wp2_with fail
  refine (szGrantS_any a cap L 1048576 _ HR.out hn (by decide) (by decide)).mono ?_
  rintro e w0 ⟨⟨r, rfl, hr⟩, hb0⟩
  have B0 : Hid (Below w.heap.size w w0) := hb0
  clear hb0
  rcases hr with hr | ⟨r0, r1, hl, hf⟩
  · go_wp2
    go_ret
    exact ⟨rfl, B0.out⟩
  have q : decide (r < 0) = false := by rw [decide_eq_false_iff_not]; omega
  clear hf r0 r1
  have KT : Hid (∀ W, Below w.heap.size w W → Calls Try.prog 10 #[.slice a L.length cap] W fun e w' => ∃ v, e = .returned v ∧ SliceG w' W.heap.size v L ∧ Below W.heap.size W w') := fun W hb => toGrantS_any a cap L W (HR.out.below hb) hl
  have KS : Hid (∀ (v : Value) (B : Nat) (W : World), SliceG W B v L → Calls Try.prog 15 #[v, .string tp, .string si] W fun e w' => ∃ v', e = .returned v' ∧ SliceG w' W.heap.size v' (dropL L tp si) ∧ Below W.heap.size W w') := fun v B W s => specGrantDrop_any v L tp si B W s hl hk1 hk2
  have KI : Hid (∀ (v : Value) (B : Nat) (W : World), Below w.heap.size w W → SliceG W B v L → Calls Try.prog 16 #[v, .string tp, .string si] W fun e w' => ∃ v', e = .returned v' ∧ SliceG w' W.heap.size v' (dropL L tp si) ∧ Below W.heap.size W w') := fun v B W _ b => grantDrop_any v L tp si B W b hl
  have hZ := dropL_len L tp si
  clear HR
  generalize dropL L tp si = Z at *
  go_wp2_with fail
  refine (KT.out _ B0.out).mono ?_
  rintro e w1 ⟨v1, rfl, s1, hb1⟩
  have B1 : Hid (Below w.heap.size w w1) := B0.out.trans (hb1.mono B0.out.size)
  have S1 : Hid (SliceG w1 w0.heap.size v1 L) := s1
  clear s1 hb1
  go_wp2_with fail
  refine (KS.out _ _ _ S1.out).mono ?_
  rintro e w2 ⟨vs, rfl, s2, hb2⟩
  have B2 : Hid (Below w.heap.size w w2) := B1.out.trans (hb2.mono B1.out.size)
  have S2 : Hid (SliceG w2 w1.heap.size vs Z) := s2
  have P2 : Hid (0 < Z.length → ∃ g, vs.ownBlock = some g ∧ w1.heap.size ≤ g ∧ g < w2.heap.size) := s2.1.place
  clear s2 hb2 S1 KS B1
  go_wp2_with fail
  refine (KT.out _ B2.out).mono ?_
  rintro e w3 ⟨vx, rfl, s3, hb3⟩
  have B3 : Hid (Below w.heap.size w w3) := B2.out.trans (hb3.mono B2.out.size)
  have S2_3 : Hid (SliceG w3 w1.heap.size vs Z) := S2.out.below hb3
  have S3 : Hid (SliceG w3 w2.heap.size vx L) := s3
  have P3 : Hid (0 < L.length → ∃ g, vx.ownBlock = some g ∧ w2.heap.size ≤ g ∧ g < w3.heap.size) := s3.1.place
  have z23 : w2.heap.size ≤ w3.heap.size := hb3.size
  clear s3 hb3 S2
  go_wp2_with fail
  refine (KI.out _ _ _ B3.out S3.out).mono ?_
  rintro e w4 ⟨vg, rfl, s4, hb4⟩
  have B4 : Hid (Below w.heap.size w w4) := B3.out.trans (hb4.mono B3.out.size)
  have S2_4 : Hid (SliceG w4 w1.heap.size vs Z) := S2_3.out.below hb4
  have S3_4 : Hid (SliceG w4 w2.heap.size vx L) := S3.out.below hb4
  have S4 : Hid (SliceG w4 w3.heap.size vg Z) := s4
  have P4 : Hid (0 < Z.length → ∃ g, vg.ownBlock = some g ∧ w3.heap.size ≤ g ∧ g < w4.heap.size) := s4.1.place
  have z34 : w3.heap.size ≤ w4.heap.size := hb4.size
  clear s4 hb4 S2_3 S3
  go_wp2_with fail
  refine (eqGrantS_any vg vs Z _ _ _ S4.out S2_4.out (by omega)).mono ?_
  rintro e w5 ⟨rfl, hb5⟩
  have B5 : Hid (Below w.heap.size w w5) := B4.out.trans (hb5.mono B4.out.size)
  have S2_5 : Hid (SliceG w5 w1.heap.size vs Z) := S2_4.out.below hb5
  have S3_5 : Hid (SliceG w5 w2.heap.size vx L) := S3_4.out.below hb5
  have S4_5 : Hid (SliceG w5 w3.heap.size vg Z) := S4.out.below hb5
  have z45 : w4.heap.size ≤ w5.heap.size := hb5.size
  clear hb5 S2_4 S3_4 S4
  go_wp2_with fail
  refine (KT.out _ B5.out).mono ?_
  rintro e w6 ⟨v6, rfl, s6, hb6⟩
  have B6 : Hid (Below w.heap.size w w6) := B5.out.trans (hb6.mono B5.out.size)
  have S2_6 : Hid (SliceG w6 w1.heap.size vs Z) := S2_5.out.below hb6
  have S3_6 : Hid (SliceG w6 w2.heap.size vx L) := S3_5.out.below hb6
  have S4_6 : Hid (SliceG w6 w3.heap.size vg Z) := S4_5.out.below hb6
  have S6 : Hid (SliceG w6 w5.heap.size v6 L) := s6
  have z56 : w5.heap.size ≤ w6.heap.size := hb6.size
  clear hb6 s6 S2_5 S3_5 S4_5
  go_wp2_with fail
  refine (eqGrantS_any vx v6 L _ _ _ S3_6.out S6.out hl).mono ?_
  rintro e w7 ⟨rfl, hb7⟩
  have B7 : Hid (Below w.heap.size w w7) := B6.out.trans (hb7.mono B6.out.size)
  have S2_7 : Hid (SliceG w7 w1.heap.size vs Z) := S2_6.out.below hb7
  have S3_7 : Hid (SliceG w7 w2.heap.size vx L) := S3_6.out.below hb7
  have S4_7 : Hid (SliceG w7 w3.heap.size vg Z) := S4_6.out.below hb7
  have z67 : w6.heap.size ≤ w7.heap.size := hb7.size
  clear hb7 S2_6 S3_6 S4_6 S6
  go_wp2_with fail
  refine (markG_call vx L w2.heap.size w7 S3_7.out (by omega) hl).mono ?_
  rintro e w8 ⟨rfl, -, G, hG1, hG2, hG3, hg8⟩
  have S2_8 : Hid (SliceG w8 w1.heap.size vs Z) := S2_7.out.keepG hg8 (fun h => by obtain ⟨g, e, h1, h2⟩ := P2.out h; exact ⟨g, e, by omega⟩)
  have S4_8 : Hid (SliceG w8 w3.heap.size vg Z) := S4_7.out.keepG hg8 (fun h => by
    obtain ⟨g, e, h1, h2⟩ := P4.out h
    refine ⟨g, e, ?_⟩
    by_cases h0 : 0 < L.length
    · obtain ⟨g', e', h1', h2'⟩ := P3.out h0
      have e2 := hG2 h0
      rw [e'] at e2
      have := Option.some.inj e2
      omega
    · have := hG3 h0; omega)
  have B8 : Hid (Below w.heap.size w w8) := B7.out.grown hg8 B7.out.size (fun j hj => by have := Option.some.inj hj; have := B2.out.size; omega)
  have z78 : w7.heap.size ≤ w8.heap.size := hg8.size
  have hm0 : decide ((((1 + L.length * 3 : Nat) : Int)) < 0) = false := by rw [decide_eq_false_iff_not]; omega
  clear hg8 hG1 hG2 hG3 S2_7 S3_7 S4_7 P3
  generalize ((1 + L.length * 3 : Nat) : Int) = mL at *
  go_wp2_with fail
  refine (eqGrantS_any vg vs Z _ _ _ S4_8.out S2_8.out (by omega)).mono ?_
  rintro e w9 ⟨rfl, hb9⟩
  have B9 : Hid (Below w.heap.size w w9) := B8.out.trans (hb9.mono B8.out.size)
  have S2_9 : Hid (SliceG w9 w1.heap.size vs Z) := S2_8.out.below hb9
  have S4_9 : Hid (SliceG w9 w3.heap.size vg Z) := S4_8.out.below hb9
  have z89 : w8.heap.size ≤ w9.heap.size := hb9.size
  clear hb9 S2_8 S4_8
  go_wp2_with fail
  refine (markG_call vg Z w3.heap.size w9 S4_9.out (by omega) (by omega)).mono ?_
  rintro e w10 ⟨rfl, s10, G, hG1, hG2, hG3, hg10⟩
  have S2_10 : Hid (SliceG w10 w1.heap.size vs Z) := S2_9.out.keepG hg10 (fun h => by obtain ⟨g, e, h1, h2⟩ := P2.out h; exact ⟨g, e, by omega⟩)
  have S10 : Hid (SliceR w10 w3.heap.size 3 vg Z.length (markGrC 1)) := s10
  have B10 : Hid (Below w.heap.size w w10) := B9.out.grown hg10 B9.out.size (fun j hj => by have := Option.some.inj hj; have := B2.out.size; omega)
  have KH : Hid (∀ W, Below w10.heap.size w10 W → Calls Try.prog 14 #[vg, .int .i64 1] W fun e w' => e = .returned (.int .i64 ((1 + Z.length * 3 : Nat) : Int)) ∧ Below W.heap.size W w') := fun W hb => heldGrantS_any vg Z.length _ 1 W (SliceR.below S10.out hb) (by omega) (by decide) (by decide)
  have hm1 : decide ((((1 + Z.length * 3 : Nat) : Int)) < 0) = false := by rw [decide_eq_false_iff_not]; omega
  clear hg10 hG1 hG2 hG3 S2_9 S4_9 s10 S10 P2 P4
  generalize ((1 + Z.length * 3 : Nat) : Int) = mZ at *
  go_wp2_with fail
  refine (KH.out _ (Below.refl _ _)).mono ?_
  rintro e w11 ⟨rfl, hb11⟩
  have B11 : Hid (Below w.heap.size w w11) := B10.out.trans (hb11.mono B10.out.size)
  have A11 : Hid (Below w10.heap.size w10 w11) := hb11
  have S2_11 : Hid (SliceG w11 w1.heap.size vs Z) := S2_10.out.below hb11
  clear hb11 S2_10
  go_wp2_with fail
  refine (KT.out _ B11.out).mono ?_
  rintro e w12 ⟨v12, rfl, s12, hb12⟩
  have B12 : Hid (Below w.heap.size w w12) := B11.out.trans (hb12.mono B11.out.size)
  have A12 : Hid (Below w10.heap.size w10 w12) := A11.out.trans (hb12.mono A11.out.size)
  have S2_12 : Hid (SliceG w12 w1.heap.size vs Z) := S2_11.out.below hb12
  have S12 : Hid (SliceG w12 w11.heap.size v12 L) := s12
  clear hb12 s12 S2_11
  go_wp2_with fail
  refine (KI.out _ _ _ B12.out S12.out).mono ?_
  rintro e w13 ⟨vh, rfl, s13, hb13⟩
  have B13 : Hid (Below w.heap.size w w13) := B12.out.trans (hb13.mono B12.out.size)
  have A13 : Hid (Below w10.heap.size w10 w13) := A12.out.trans (hb13.mono A12.out.size)
  have S2_13 : Hid (SliceG w13 w1.heap.size vs Z) := S2_12.out.below hb13
  have S13 : Hid (SliceG w13 w12.heap.size vh Z) := s13
  clear hb13 s13 S2_12 S12
  go_wp2_with fail
  refine (eqGrantS_any vh vs Z _ _ _ S13.out S2_13.out (by omega)).mono ?_
  rintro e w14 ⟨rfl, hb14⟩
  have B14 : Hid (Below w.heap.size w w14) := B13.out.trans (hb14.mono B13.out.size)
  have A14 : Hid (Below w10.heap.size w10 w14) := A13.out.trans (hb14.mono A13.out.size)
  clear hb14
  go_wp2_with fail
  refine (KH.out _ A14.out).mono ?_
  rintro e w15 ⟨rfl, hb15⟩
  go_wp2
  go_ret
  exact ⟨rfl, B14.out.trans (hb15.mono B14.out.size)⟩
end Go.Proofs.Ytehnklgpdjfcgaa

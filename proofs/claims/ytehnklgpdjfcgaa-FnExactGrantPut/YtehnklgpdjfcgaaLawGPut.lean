/- The law FnExactGrantPut, walked. Written by lawgrantout.py. -/
import Derived.Test.YtehnklgpdjfcgaaSpecPut8
import Derived.Test.YtehnklgpdjfcgaaImplPutG
import Derived.Test.YtehnklgpdjfcgaaGrantOutG
namespace Go.Proofs.Ytehnklgpdjfcgaa
open Go.RowKit

set_option maxRecDepth 10000 in
set_option maxHeartbeats 8000000 in
theorem lawGrantPut_any (a : Option Addr) (cap : Nat) (L : List Gr) (tp si : ByteArray) (now : Int) (w : World) (hr : GrRow w a L) (hn : L.length ≤ maxLen) :
    Calls Try.prog 5 #[.slice a L.length cap, .string tp, .string si, .int .i64 now] w fun e w' => e = .returned (.bool true) ∧ Below w.heap.size w w' := by
  have HR : Hid (GrRow w a L) := hr
  clear hr
  by_cases htp : 1048576 < tp.size
  · go_enter Try.func5, Try.ntmps5
    go_wp2
    go_ret
    exact ⟨rfl, Below.refl _ _⟩
  have btp : tp.size ≤ 1048576 := by omega
  by_cases hsi : 1048576 < si.size
  · go_enter Try.func5, Try.ntmps5
    go_wp2
    go_ret
    exact ⟨rfl, Below.refl _ _⟩
  have bsi : si.size ≤ 1048576 := by omega
  go_enter Try.func5, Try.ntmps5
  go_wp2_with fail
  refine (szGrantS_any a cap L 1048576 _ HR.out hn (by decide) (by decide)).mono ?_
  rintro e w0 ⟨⟨r, rfl, hr⟩, hb0⟩
  have B0 : Hid (Below w.heap.size w w0) := hb0
  clear hb0
  rcases hr with hr | ⟨r0, r1, hl, hf⟩
  · go_wp2
    go_ret
    exact ⟨rfl, B0.out⟩
  have q : decide (r < 0) = false := by rw [decide_eq_false_iff_not]; omega
  clear hf r0 r1
  have KT : Hid (∀ W, Below w.heap.size w W → Calls Try.prog 10 #[.slice a L.length cap] W fun e w' => ∃ v, e = .returned v ∧ SliceG w' W.heap.size v L ∧ Below W.heap.size W w') := fun W hb => toGrantS_any a cap L W (HR.out.below hb) hl
  have KS : Hid (∀ (v : Value) (B : Nat) (W : World), SliceG W B v L → Calls Try.prog 17 #[v, .string tp, .string si, .int .i64 now] W fun e w' => ∃ v', e = .returned v' ∧ AnsG w' W.heap.size v' (putG L tp si now) ∧ Below W.heap.size W w') := fun v B W s => specGrantPut_any v L tp si now B W s hl btp bsi
  have KI : Hid (∀ (v : Value) (B : Nat) (W : World), Below w.heap.size w W → SliceG W B v L → Calls Try.prog 18 #[v, .string tp, .string si, .int .i64 now] W fun e w' => ∃ v', e = .returned v' ∧ AnsG w' W.heap.size v' (putG L tp si now) ∧ Below W.heap.size W w') := fun v B W _ b => grantPut_any v L tp si now B W b hl btp bsi
  have hZ : (putG L tp si now).ar.length ≤ 17 := Nat.le_trans (putG_len L tp si now) (by decide)
  clear HR
  generalize putG L tp si now = Z at *
  go_wp2_with fail
  refine (KT.out _ B0.out).mono ?_
  rintro e w1 ⟨v1, rfl, s1, hb1⟩
  have B1 : Hid (Below w.heap.size w w1) := B0.out.trans (hb1.mono B0.out.size)
  have S1 : Hid (SliceG w1 w0.heap.size v1 L) := s1
  clear s1 hb1
  go_wp2_with fail
  refine (KS.out _ _ _ S1.out).mono ?_
  rintro e w2 ⟨vs, rfl, ⟨ss, rfl, s2⟩, hb2⟩
  obtain ⟨pss, css, hvss⟩ : ∃ p c, ss = .slice p Z.ar.length c := by obtain ⟨⟨p, cap, e, -⟩, -⟩ := s2; exact ⟨p, cap, e⟩
  obtain ⟨W2, hW2⟩ : ∃ W, W = w2.alloc (.cells #[ss, .bool Z.us, .int .i64 Z.co] 33) := ⟨_, rfl⟩
  have HW2 : Hid (W2 = w2.alloc (.cells #[ss, .bool Z.us, .int .i64 Z.co] 33)) := hW2
  have AW2 : Below w2.heap.size w2 W2 := by rw [hW2]; exact (Below.refl _ _).alloc (Nat.le_refl _) _
  have Iss : Hid (InBoxG W2 w2.heap.size ss Z) := by show InBoxG _ _ _ _; rw [hW2]; exact inBoxG_made _ _ _ _
  have zW2 : w2.heap.size < W2.heap.size := by rw [hW2]; simp
  have B2 : Hid (Below w.heap.size w W2) := (B1.out.trans (hb2.mono B1.out.size)).trans (AW2.mono (Nat.le_trans B1.out.size hb2.size))
  have SS : Hid (SliceG W2 w1.heap.size ss Z.ar) := s2.below AW2
  have P2 : Hid (0 < Z.ar.length → ∃ g, ss.ownBlock = some g ∧ w1.heap.size ≤ g ∧ g < w2.heap.size) := s2.1.place
  have z12 : w1.heap.size ≤ w2.heap.size := hb2.size
  clear s2 hb2 S1 KS AW2 hW2
  have hvs := hvss
  clear hvss
  subst hvs
  go_upto_region 10 with fail
  rw [← HW2.out]
  clear HW2
  go_wp2_with fail
  refine (KT.out _ B2.out).mono ?_
  rintro e w3 ⟨vx, rfl, s3, hb3⟩
  have B3 : Hid (Below w.heap.size w w3) := B2.out.trans (hb3.mono B2.out.size)
  have SS_w3 : Hid (SliceG w3 w1.heap.size (.slice pss Z.ar.length css) Z.ar) := SS.out.below hb3
  clear SS
  have Iss_w3 : Hid (InBoxG w3 w2.heap.size (.slice pss Z.ar.length css) Z) := Iss.out.below hb3
  clear Iss
  have SX : Hid (SliceG w3 W2.heap.size vx L) := s3
  have P3 : Hid (0 < L.length → ∃ g, vx.ownBlock = some g ∧ W2.heap.size ≤ g ∧ g < w3.heap.size) := s3.1.place
  have z23 : W2.heap.size ≤ w3.heap.size := hb3.size
  clear s3 hb3
  go_wp2_with fail
  refine (KI.out _ _ _ B3.out SX.out).mono ?_
  rintro e w4 ⟨vg, rfl, ⟨sg, rfl, s4⟩, hb4⟩
  obtain ⟨psg, csg, hvsg⟩ : ∃ p c, sg = .slice p Z.ar.length c := by obtain ⟨⟨p, cap, e, -⟩, -⟩ := s4; exact ⟨p, cap, e⟩
  obtain ⟨W4, hW4⟩ : ∃ W, W = w4.alloc (.cells #[sg, .bool Z.us, .int .i64 Z.co] 33) := ⟨_, rfl⟩
  have HW4 : Hid (W4 = w4.alloc (.cells #[sg, .bool Z.us, .int .i64 Z.co] 33)) := hW4
  have AW4 : Below w4.heap.size w4 W4 := by rw [hW4]; exact (Below.refl _ _).alloc (Nat.le_refl _) _
  have Isg : Hid (InBoxG W4 w4.heap.size sg Z) := by show InBoxG _ _ _ _; rw [hW4]; exact inBoxG_made _ _ _ _
  have zW4 : w4.heap.size < W4.heap.size := by rw [hW4]; simp
  have A4 : Below w3.heap.size w3 W4 := hb4.trans (AW4.mono hb4.size)
  have B4 : Hid (Below w.heap.size w W4) := B3.out.trans (A4.mono B3.out.size)
  have SS_W4 : Hid (SliceG W4 w1.heap.size (.slice pss Z.ar.length css) Z.ar) := SS_w3.out.below A4
  clear SS_w3
  have Iss_W4 : Hid (InBoxG W4 w2.heap.size (.slice pss Z.ar.length css) Z) := Iss_w3.out.below A4
  clear Iss_w3
  have SX_W4 : Hid (SliceG W4 W2.heap.size vx L) := SX.out.below A4
  clear SX
  have SG : Hid (SliceG W4 w3.heap.size sg Z.ar) := s4.below AW4
  have P4 : Hid (0 < Z.ar.length → ∃ g, sg.ownBlock = some g ∧ w3.heap.size ≤ g ∧ g < w4.heap.size) := s4.1.place
  have z34 : w3.heap.size ≤ w4.heap.size := hb4.size
  clear s4 hb4 AW4 hW4 A4
  have hvg := hvsg
  clear hvsg
  subst hvg
  go_upto_region 12 with fail
  rw [← HW4.out]
  clear HW4
  obtain ⟨u0, u1, u2, u3⟩ := Iss_W4.out
  obtain ⟨y0, y1, y2, y3⟩ := Isg.out
  go_wp2_with fail
  refine (eqGO_any (.slice psg Z.ar.length csg) (.slice pss Z.ar.length css) Z _ _ _ SG.out SS_W4.out (by omega)).mono ?_
  rintro e w5 ⟨rfl, hbw5⟩
  have Bw5 : Hid (Below w.heap.size w w5) := B4.out.trans (hbw5.mono B4.out.size)
  clear u0 u1 u2 u3
  clear y0 y1 y2 y3
  have SS_w5 : Hid (SliceG w5 w1.heap.size (.slice pss Z.ar.length css) Z.ar) := SS_W4.out.below hbw5
  clear SS_W4
  have Iss_w5 : Hid (InBoxG w5 w2.heap.size (.slice pss Z.ar.length css) Z) := Iss_W4.out.below hbw5
  clear Iss_W4
  have SX_w5 : Hid (SliceG w5 W2.heap.size vx L) := SX_W4.out.below hbw5
  clear SX_W4
  have SG_w5 : Hid (SliceG w5 w3.heap.size (.slice psg Z.ar.length csg) Z.ar) := SG.out.below hbw5
  clear SG
  have Isg_w5 : Hid (InBoxG w5 w4.heap.size (.slice psg Z.ar.length csg) Z) := Isg.out.below hbw5
  clear Isg
  have z45 : W4.heap.size ≤ w5.heap.size := hbw5.size
  clear hbw5
  go_wp2_with fail
  refine (KT.out _ Bw5.out).mono ?_
  rintro e w6 ⟨v6, rfl, s6, hb6⟩
  have B6 : Hid (Below w.heap.size w w6) := Bw5.out.trans (hb6.mono Bw5.out.size)
  have SS_w6 : Hid (SliceG w6 w1.heap.size (.slice pss Z.ar.length css) Z.ar) := SS_w5.out.below hb6
  clear SS_w5
  have Iss_w6 : Hid (InBoxG w6 w2.heap.size (.slice pss Z.ar.length css) Z) := Iss_w5.out.below hb6
  clear Iss_w5
  have SX_w6 : Hid (SliceG w6 W2.heap.size vx L) := SX_w5.out.below hb6
  clear SX_w5
  have SG_w6 : Hid (SliceG w6 w3.heap.size (.slice psg Z.ar.length csg) Z.ar) := SG_w5.out.below hb6
  clear SG_w5
  have Isg_w6 : Hid (InBoxG w6 w4.heap.size (.slice psg Z.ar.length csg) Z) := Isg_w5.out.below hb6
  clear Isg_w5
  have S6 : Hid (SliceG w6 w5.heap.size v6 L) := s6
  have z56 : w5.heap.size ≤ w6.heap.size := hb6.size
  clear hb6 s6
  go_wp2_with fail
  refine (eqGrantS_any vx v6 L _ _ _ SX_w6.out S6.out hl).mono ?_
  rintro e w7 ⟨rfl, hb7⟩
  have B7 : Hid (Below w.heap.size w w7) := B6.out.trans (hb7.mono B6.out.size)
  have SS_w7 : Hid (SliceG w7 w1.heap.size (.slice pss Z.ar.length css) Z.ar) := SS_w6.out.below hb7
  clear SS_w6
  have Iss_w7 : Hid (InBoxG w7 w2.heap.size (.slice pss Z.ar.length css) Z) := Iss_w6.out.below hb7
  clear Iss_w6
  have SX_w7 : Hid (SliceG w7 W2.heap.size vx L) := SX_w6.out.below hb7
  clear SX_w6
  have SG_w7 : Hid (SliceG w7 w3.heap.size (.slice psg Z.ar.length csg) Z.ar) := SG_w6.out.below hb7
  clear SG_w6
  have Isg_w7 : Hid (InBoxG w7 w4.heap.size (.slice psg Z.ar.length csg) Z) := Isg_w6.out.below hb7
  clear Isg_w6
  have z67 : w6.heap.size ≤ w7.heap.size := hb7.size
  clear hb7 S6
  go_wp2_with fail
  refine (markG_call vx L W2.heap.size w7 SX_w7.out (by omega) hl).mono ?_
  rintro e w8 ⟨rfl, -, G, hG1, hG2, hG3, hg8⟩
  have hGs : w2.heap.size ≠ G := by omega
  have hGg : w4.heap.size ≠ G := by
    by_cases h0 : 0 < L.length
    · obtain ⟨g', e', h1', h2'⟩ := P3.out h0
      have e2 := hG2 h0
      rw [e'] at e2
      have := Option.some.inj e2
      omega
    · have := hG3 h0; omega
  have SS_w8 : Hid (SliceG w8 w1.heap.size (.slice pss Z.ar.length css) Z.ar) := SliceG.keepG SS_w7.out hg8 (fun h => by obtain ⟨g, e, h1, h2⟩ := P2.out h; exact ⟨g, e, by omega⟩)
  have SG_w8 : Hid (SliceG w8 w3.heap.size (.slice psg Z.ar.length csg) Z.ar) := SliceG.keepG SG_w7.out hg8 (fun h => by
    obtain ⟨g, e, h1, h2⟩ := P4.out h
    refine ⟨g, e, ?_⟩
    by_cases h0 : 0 < L.length
    · obtain ⟨g', e', h1', h2'⟩ := P3.out h0
      have e2 := hG2 h0
      rw [e'] at e2
      have := Option.some.inj e2
      omega
    · have := hG3 h0; omega)
  have Iss_w8 : Hid (InBoxG w8 w2.heap.size (.slice pss Z.ar.length css) Z) := Iss_w7.out.grown hg8 hGs
  have Isg_w8 : Hid (InBoxG w8 w4.heap.size (.slice psg Z.ar.length csg) Z) := Isg_w7.out.grown hg8 hGg
  have B8 : Hid (Below w.heap.size w w8) := B7.out.grown hg8 B7.out.size (fun j hj => by have := Option.some.inj hj; have := B2.out.size; omega)
  have z78 : w7.heap.size ≤ w8.heap.size := hg8.size
  have hm0 : decide ((((1 + L.length * 3 : Nat) : Int)) < 0) = false := by rw [decide_eq_false_iff_not]; omega
  clear hg8 hG1 hG2 hG3 hGs hGg P3 SS_w7 Iss_w7 SX_w7 SG_w7 Isg_w7
  generalize ((1 + L.length * 3 : Nat) : Int) = mL at *
  obtain ⟨u0, u1, u2, u3⟩ := Iss_w8.out
  obtain ⟨y0, y1, y2, y3⟩ := Isg_w8.out
  go_wp2_with fail
  refine (eqGO_any (.slice psg Z.ar.length csg) (.slice pss Z.ar.length css) Z _ _ _ SG_w8.out SS_w8.out (by omega)).mono ?_
  rintro e w9 ⟨rfl, hbw9⟩
  have Bw9 : Hid (Below w.heap.size w w9) := B8.out.trans (hbw9.mono B8.out.size)
  clear u0 u1 u2 u3
  clear y0 y1 y2 y3
  have SS_w9 : Hid (SliceG w9 w1.heap.size (.slice pss Z.ar.length css) Z.ar) := SS_w8.out.below hbw9
  clear SS_w8
  have Iss_w9 : Hid (InBoxG w9 w2.heap.size (.slice pss Z.ar.length css) Z) := Iss_w8.out.below hbw9
  clear Iss_w8
  have SG_w9 : Hid (SliceG w9 w3.heap.size (.slice psg Z.ar.length csg) Z.ar) := SG_w8.out.below hbw9
  clear SG_w8
  have Isg_w9 : Hid (InBoxG w9 w4.heap.size (.slice psg Z.ar.length csg) Z) := Isg_w8.out.below hbw9
  clear Isg_w8
  have z89 : w8.heap.size ≤ w9.heap.size := hbw9.size
  clear hbw9
  obtain ⟨y0, y1, y2, y3⟩ := Isg_w9.out
  go_wp2_with fail
  refine (markGO_call (.slice psg Z.ar.length csg) Z.us Z.co Z.ar w3.heap.size w9 SG_w9.out (by omega) (by omega)).mono ?_
  rintro e w10 ⟨rfl, s10, G, hG1, hG2, hG3, hg10⟩
  clear y0 y1 y2 y3
  have hGs : w2.heap.size ≠ G := by omega
  have hGg : w4.heap.size ≠ G := by
    by_cases h0 : 0 < Z.ar.length
    · obtain ⟨g', e', h1', h2'⟩ := P4.out h0
      have e2 := hG2 h0
      rw [e'] at e2
      have := Option.some.inj e2
      omega
    · have := hG3 h0; omega
  have SS_w10 : Hid (SliceG w10 w1.heap.size (.slice pss Z.ar.length css) Z.ar) := SliceG.keepG SS_w9.out hg10 (fun h => by obtain ⟨g, e, h1, h2⟩ := P2.out h; exact ⟨g, e, by omega⟩)
  have Iss_w10 : Hid (InBoxG w10 w2.heap.size (.slice pss Z.ar.length css) Z) := Iss_w9.out.grown hg10 hGs
  have Isg_w10 : Hid (InBoxG w10 w4.heap.size (.slice psg Z.ar.length csg) Z) := Isg_w9.out.grown hg10 hGg
  have S10 : Hid (SliceR w10 w3.heap.size 3 (.slice psg Z.ar.length csg) Z.ar.length (markGrC 1)) := s10
  have B10 : Hid (Below w.heap.size w w10) := Bw9.out.grown hg10 Bw9.out.size (fun j hj => by have := Option.some.inj hj; have := B2.out.size; omega)
  have KH : Hid (∀ W, Below w10.heap.size w10 W → Calls Try.prog 21 #[.agg #[.slice psg Z.ar.length csg, .bool Z.us, .int .i64 Z.co], .int .i64 1] W fun e w' => e = .returned (.int .i64 ((1 + Z.ar.length * 3 : Nat) : Int)) ∧ Below W.heap.size W w') := fun W hb => heldGO_any (.slice psg Z.ar.length csg) Z.us Z.co Z.ar.length _ W (SliceR.below S10.out hb) (by omega)
  have hm1 : decide ((((1 + Z.ar.length * 3 : Nat) : Int)) < 0) = false := by rw [decide_eq_false_iff_not]; omega
  clear hg10 hG1 hG2 hG3 hGs hGg s10 S10 P2 P4 SS_w9 Iss_w9 SG_w9 Isg_w9
  generalize ((1 + Z.ar.length * 3 : Nat) : Int) = mZ at *
  obtain ⟨y0, y1, y2, y3⟩ := Isg_w10.out
  go_wp2_with fail
  refine (KH.out _ (Below.refl _ _)).mono ?_
  rintro e w11 ⟨rfl, hb11⟩
  clear y0 y1 y2 y3
  have B11 : Hid (Below w.heap.size w w11) := B10.out.trans (hb11.mono B10.out.size)
  have A11 : Hid (Below w10.heap.size w10 w11) := hb11
  have SS_w11 : Hid (SliceG w11 w1.heap.size (.slice pss Z.ar.length css) Z.ar) := SS_w10.out.below hb11
  clear SS_w10
  have Iss_w11 : Hid (InBoxG w11 w2.heap.size (.slice pss Z.ar.length css) Z) := Iss_w10.out.below hb11
  clear Iss_w10
  have Isg_w11 : Hid (InBoxG w11 w4.heap.size (.slice psg Z.ar.length csg) Z) := Isg_w10.out.below hb11
  clear Isg_w10
  clear hb11
  go_wp2_with fail
  refine (KT.out _ B11.out).mono ?_
  rintro e w12 ⟨v12, rfl, s12, hb12⟩
  have B12 : Hid (Below w.heap.size w w12) := B11.out.trans (hb12.mono B11.out.size)
  have A12 : Hid (Below w10.heap.size w10 w12) := A11.out.trans (hb12.mono A11.out.size)
  have SS_w12 : Hid (SliceG w12 w1.heap.size (.slice pss Z.ar.length css) Z.ar) := SS_w11.out.below hb12
  clear SS_w11
  have Iss_w12 : Hid (InBoxG w12 w2.heap.size (.slice pss Z.ar.length css) Z) := Iss_w11.out.below hb12
  clear Iss_w11
  have Isg_w12 : Hid (InBoxG w12 w4.heap.size (.slice psg Z.ar.length csg) Z) := Isg_w11.out.below hb12
  clear Isg_w11
  have S12 : Hid (SliceG w12 w11.heap.size v12 L) := s12
  clear hb12 s12
  go_wp2_with fail
  refine (KI.out _ _ _ B12.out S12.out).mono ?_
  rintro e w13 ⟨vh, rfl, ⟨sh, rfl, s13⟩, hb13⟩
  obtain ⟨psh, csh, hvsh⟩ : ∃ p c, sh = .slice p Z.ar.length c := by obtain ⟨⟨p, cap, e, -⟩, -⟩ := s13; exact ⟨p, cap, e⟩
  obtain ⟨W13, hW13⟩ : ∃ W, W = w13.alloc (.cells #[sh, .bool Z.us, .int .i64 Z.co] 33) := ⟨_, rfl⟩
  have HW13 : Hid (W13 = w13.alloc (.cells #[sh, .bool Z.us, .int .i64 Z.co] 33)) := hW13
  have AW13 : Below w13.heap.size w13 W13 := by rw [hW13]; exact (Below.refl _ _).alloc (Nat.le_refl _) _
  have Ish : Hid (InBoxG W13 w13.heap.size sh Z) := by show InBoxG _ _ _ _; rw [hW13]; exact inBoxG_made _ _ _ _
  have zW13 : w13.heap.size < W13.heap.size := by rw [hW13]; simp
  have A13 : Below w12.heap.size w12 W13 := hb13.trans (AW13.mono hb13.size)
  have B13 : Hid (Below w.heap.size w W13) := B12.out.trans (A13.mono B12.out.size)
  have C13 : Hid (Below w10.heap.size w10 W13) := A12.out.trans (A13.mono A12.out.size)
  have SS_W13 : Hid (SliceG W13 w1.heap.size (.slice pss Z.ar.length css) Z.ar) := SS_w12.out.below A13
  clear SS_w12
  have Iss_W13 : Hid (InBoxG W13 w2.heap.size (.slice pss Z.ar.length css) Z) := Iss_w12.out.below A13
  clear Iss_w12
  have Isg_W13 : Hid (InBoxG W13 w4.heap.size (.slice psg Z.ar.length csg) Z) := Isg_w12.out.below A13
  clear Isg_w12
  have SH : Hid (SliceG W13 w12.heap.size sh Z.ar) := s13.below AW13
  clear s13 hb13 AW13 hW13 A13 S12
  have hvh := hvsh
  clear hvsh
  subst hvh
  go_upto_region 29 with fail
  rw [← HW13.out]
  clear HW13
  obtain ⟨x0, x1, x2, x3⟩ := Ish.out
  obtain ⟨u0, u1, u2, u3⟩ := Iss_W13.out
  go_wp2_with fail
  refine (eqGO_any (.slice psh Z.ar.length csh) (.slice pss Z.ar.length css) Z _ _ _ SH.out SS_W13.out (by omega)).mono ?_
  rintro e w14 ⟨rfl, hbw14⟩
  have Bw14 : Hid (Below w.heap.size w w14) := B13.out.trans (hbw14.mono B13.out.size)
  clear u0 u1 u2 u3
  clear x0 x1 x2 x3
  have SS_w14 : Hid (SliceG w14 w1.heap.size (.slice pss Z.ar.length css) Z.ar) := SS_W13.out.below hbw14
  clear SS_W13
  have Iss_w14 : Hid (InBoxG w14 w2.heap.size (.slice pss Z.ar.length css) Z) := Iss_W13.out.below hbw14
  clear Iss_W13
  have Isg_w14 : Hid (InBoxG w14 w4.heap.size (.slice psg Z.ar.length csg) Z) := Isg_W13.out.below hbw14
  clear Isg_W13
  have Ish_w14 : Hid (InBoxG w14 w13.heap.size (.slice psh Z.ar.length csh) Z) := Ish.out.below hbw14
  clear Ish
  have C14 : Hid (Below w10.heap.size w10 w14) := C13.out.trans (hbw14.mono C13.out.size)
  clear hbw14
  obtain ⟨y0, y1, y2, y3⟩ := Isg_w14.out
  go_wp2_with fail
  refine (KH.out _ C14.out).mono ?_
  rintro e w15 ⟨rfl, hb15⟩
  go_wp2
  go_ret
  exact ⟨rfl, Bw14.out.trans (hb15.mono Bw14.out.size)⟩
end Go.Proofs.Ytehnklgpdjfcgaa

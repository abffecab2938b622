/- The law FnExactGrantAsk, walked. Written by lawgrantout.py. -/
import Derived.Test.YtehnklgpdjfcgaaSpecAskG
import Derived.Test.YtehnklgpdjfcgaaImplAskG
import Derived.Test.YtehnklgpdjfcgaaStructAsk
import Derived.Test.YtehnklgpdjfcgaaOpenAgg6
import Derived.Test.YtehnklgpdjfcgaaGrantOutG
namespace Go.Proofs.Ytehnklgpdjfcgaa
open Go.RowKit

theorem inBoxG_stored {W : World} {b : Nat} {s : Value} {Z : GO} (X : BoxG W b) : InBoxG (((W.setCell ⟨b, 0, none⟩ s).setCell ⟨b, 1, none⟩ (.bool Z.us)).setCell ⟨b, 2, none⟩ (.int .i64 Z.co)) b s Z := by
  have n (i j : Nat) (h : i ≠ j) : (⟨b, i, none⟩ : Addr) ≠ ⟨b, j, none⟩ := by intro e; injection e with _ e; exact h e
  refine ⟨?_, ?_, ?_, by simpa using X.lt⟩
  · rw [World.cell?_setCell_other _ _ _ _ (n 2 0 (by decide)), World.cell?_setCell_other _ _ _ _ (n 1 0 (by decide))]; exact World.cell?_setCell_same _ _ _ X.c0
  · rw [World.cell?_setCell_other _ _ _ _ (n 2 1 (by decide))]; exact World.cell?_setCell_same _ _ _ (by rw [World.cell?_setCell_other _ _ _ _ (n 0 1 (by decide))]; exact X.c1)
  · exact World.cell?_setCell_same _ _ _ (by rw [World.cell?_setCell_other _ _ _ _ (n 1 2 (by decide)), World.cell?_setCell_other _ _ _ _ (n 0 2 (by decide))]; exact X.c2)

set_option maxRecDepth 10000 in
set_option maxHeartbeats 8000000 in
theorem lawGrantAsk_any (a : Option Addr) (cap : Nat) (L : List Gr) (tp si : ByteArray) (tc sa re ye : Bool) (now : Int) (w : World) (hr : GrRow w a L) (hn : L.length ≤ maxLen) (m1 : tp.size ≤ maxLen) (m2 : si.size ≤ maxLen) :
    Calls Try.prog 6 #[.slice a L.length cap, .agg #[.string tp, .string si, .bool tc, .bool sa, .bool re, .bool ye], .int .i64 now] w fun e w' => e = .returned (.bool true) ∧ Below w.heap.size w w' := by
  obtain ⟨wu, hwu⟩ : ∃ W, W = w.alloc (.cells #[.string tp, .string si, .bool tc, .bool sa, .bool re, .bool ye] 39) := ⟨_, rfl⟩
  have Bu : Hid (Below w.heap.size w wu) := by show Below _ _ _; rw [hwu]; exact (Below.refl _ _).alloc (Nat.le_refl _) _
  have HR : Hid (GrRow wu a L) := hr.below Bu.out
  have qu0 : World.cell? wu ⟨w.heap.size, 0, none⟩ = some (.string tp) := by rw [hwu]; simp
  have qu1 : World.cell? wu ⟨w.heap.size, 1, none⟩ = some (.string si) := by rw [hwu]; simp
  have qu2 : World.cell? wu ⟨w.heap.size, 2, none⟩ = some (.bool tc) := by rw [hwu]; simp
  have qu3 : World.cell? wu ⟨w.heap.size, 3, none⟩ = some (.bool sa) := by rw [hwu]; simp
  have qu4 : World.cell? wu ⟨w.heap.size, 4, none⟩ = some (.bool re) := by rw [hwu]; simp
  have qu5 : World.cell? wu ⟨w.heap.size, 5, none⟩ = some (.bool ye) := by rw [hwu]; simp
  have zu : w.heap.size < wu.heap.size := by rw [hwu]; simp
  have Hwu : Hid (wu = w.alloc (.cells #[.string tp, .string si, .bool tc, .bool sa, .bool re, .bool ye] 39)) := hwu
  clear hr hwu
  go_enter Try.func6, Try.ntmps6
  go_upto_region 1 with fail
  rw [← Hwu.out]
  clear Hwu
  go_wp2_with fail
  refine (szGrantS_any a cap L 1048576 _ HR.out hn (by decide) (by decide)).mono ?_
  rintro e wa ⟨⟨r, rfl, hr⟩, hb0⟩
  have Ba : Hid (Below wu.heap.size wu wa) := hb0
  clear hb0
  rcases hr with hr | ⟨r0, r1, hl, hf⟩
  · go_wp2
    go_ret
    exact ⟨rfl, Bu.out.trans (Ba.out.mono Bu.out.size)⟩
  have q : decide (r < 0) = false := by rw [decide_eq_false_iff_not]; omega
  have qa0 : World.cell? wa ⟨w.heap.size, 0, none⟩ = some (.string tp) := ((bcell Ba.out).1 _ _ zu).trans qu0
  have qa1 : World.cell? wa ⟨w.heap.size, 1, none⟩ = some (.string si) := ((bcell Ba.out).1 _ _ zu).trans qu1
  have qa2 : World.cell? wa ⟨w.heap.size, 2, none⟩ = some (.bool tc) := ((bcell Ba.out).1 _ _ zu).trans qu2
  have qa3 : World.cell? wa ⟨w.heap.size, 3, none⟩ = some (.bool sa) := ((bcell Ba.out).1 _ _ zu).trans qu3
  have qa4 : World.cell? wa ⟨w.heap.size, 4, none⟩ = some (.bool re) := ((bcell Ba.out).1 _ _ zu).trans qu4
  have qa5 : World.cell? wa ⟨w.heap.size, 5, none⟩ = some (.bool ye) := ((bcell Ba.out).1 _ _ zu).trans qu5
  go_wp2_with fail
  refine (szAsk_at tp si tc sa re ye r _ m1 m2 r0 r1).mono ?_
  rintro e w0 ⟨⟨r', rfl, hr⟩, hb0⟩
  have B0 : Hid (Below wu.heap.size wu w0) := Ba.out.trans (hb0.mono Ba.out.size)
  clear hb0 qa0 qa1 qa2 qa3 qa4 qa5 q
  rcases hr with hr | ⟨r2, r3, hf2⟩
  · go_wp2
    go_ret
    exact ⟨rfl, Bu.out.trans (B0.out.mono Bu.out.size)⟩
  have q : decide (r' < 0) = false := by rw [decide_eq_false_iff_not]; omega
  have h1 : tp.size ≤ 1048576 := by omega
  have h2 : si.size ≤ 1048576 := by omega
  clear hf2 hf
  have KT : Hid (∀ W, Below wu.heap.size wu W → Calls Try.prog 10 #[.slice a L.length cap] W fun e w' => ∃ v, e = .returned v ∧ SliceG w' W.heap.size v L ∧ Below W.heap.size W w') := fun W hb => toGrantS_any a cap L W (HR.out.below hb) hl
  have KS : Hid (∀ (v : Value) (B : Nat) (W : World), SliceG W B v L → Calls Try.prog 23 #[v, .agg #[.string tp, .string si, .bool tc, .bool sa, .bool re, .bool ye], .int .i64 now] W fun e w' => ∃ v', e = .returned v' ∧ AnsG w' W.heap.size v' (askG L ⟨tp, si, tc, sa, re, ye⟩ now) ∧ Below W.heap.size W w') := fun v B W s => specGrantAsk_any v L ⟨tp, si, tc, sa, re, ye⟩ now B W s hl
  have KI : Hid (∀ (v : Value) (B : Nat) (W : World), Below wu.heap.size wu W → SliceG W B v L → Calls Try.prog 25 #[v, .agg #[.string tp, .string si, .bool tc, .bool sa, .bool re, .bool ye], .int .i64 now] W fun e w' => ∃ v', e = .returned v' ∧ AnsG w' W.heap.size v' (askG L ⟨tp, si, tc, sa, re, ye⟩ now) ∧ Below W.heap.size W w') := fun v B W _ b => grantAsk_any v L ⟨tp, si, tc, sa, re, ye⟩ now B W b hl h1 h2
  have hZ : (askG L ⟨tp, si, tc, sa, re, ye⟩ now).ar.length ≤ 17 := Nat.le_trans (askG_len L ⟨tp, si, tc, sa, re, ye⟩ now) (by decide)
  clear HR
  generalize askG L ⟨tp, si, tc, sa, re, ye⟩ now = Z at *
  go_upto_region 8 with fail
  have q_0 : World.cell? w0 ⟨w.heap.size, 0, none⟩ = some (.string tp) := ((bcell B0.out).1 _ _ zu).trans qu0
  have q_1 : World.cell? w0 ⟨w.heap.size, 1, none⟩ = some (.string si) := ((bcell B0.out).1 _ _ zu).trans qu1
  have q_2 : World.cell? w0 ⟨w.heap.size, 2, none⟩ = some (.bool tc) := ((bcell B0.out).1 _ _ zu).trans qu2
  have q_3 : World.cell? w0 ⟨w.heap.size, 3, none⟩ = some (.bool sa) := ((bcell B0.out).1 _ _ zu).trans qu3
  have q_4 : World.cell? w0 ⟨w.heap.size, 4, none⟩ = some (.bool re) := ((bcell B0.out).1 _ _ zu).trans qu4
  have q_5 : World.cell? w0 ⟨w.heap.size, 5, none⟩ = some (.bool ye) := ((bcell B0.out).1 _ _ zu).trans qu5
  have z0 : w.heap.size < w0.heap.size := Nat.lt_of_lt_of_le zu B0.out.size
  rename_i K hK
  obtain ⟨tail, -⟩ : (∀ (bs : Nat) (u26 u30 ss : Value) (W2 : World), Hid (Below w0.heap.size w0 W2) → Hid (InBoxG W2 bs ss Z) → Hid (SliceG W2 w0.heap.size ss Z.ar) → K { tmps := #[.slice a L.length cap, .agg #[.string tp, .string si, .bool tc, .bool sa, .bool re, .bool ye], .int .i64 now, undef, .pointer (some ⟨w.heap.size, 0, none⟩), undef, .bool false, .int .i64 r', .pointer (some ⟨bs, 0, none⟩), undef, undef, undef, undef, undef, undef, .slice a L.length cap, .int .i64 1048576, .int .i64 r, .int .i64 r, .bool false, .agg #[.string tp, .string si, .bool tc, .bool sa, .bool re, .bool ye], .int .i64 r, .int .i64 r', .int .i64 r', .bool false, .slice a L.length cap, u26, .agg #[.string tp, .string si, .bool tc, .bool sa, .bool re, .bool ye], .agg #[.string tp, .string si, .bool tc, .bool sa, .bool re, .bool ye], .int .i64 now, u30, undef, undef, undef, undef, undef, undef, undef, undef, undef, undef, undef, undef, undef, undef, undef, undef, undef, undef, undef, undef, undef, undef, undef, undef, undef, undef, undef, undef, undef, undef, undef, undef, undef, undef, undef, undef, undef, undef, undef, undef, undef, undef, undef, undef, undef, undef, undef, undef, undef, undef, undef, undef, undef, undef, undef, undef], defers := [] } W2) ∧ True := by
    refine ⟨?_, trivial⟩
    intro bs u26 u30 ss W2 E2 Iss SS
    obtain ⟨pss, css, hvss⟩ : ∃ p c, ss = .slice p Z.ar.length c := by obtain ⟨⟨p, cap, e, -⟩, -⟩ := SS.out; exact ⟨p, cap, e⟩
    subst hvss
    have zW2 : bs < W2.heap.size := Iss.out.2.2.2
    have B2 : Hid (Below wu.heap.size wu W2) := B0.out.trans (E2.out.mono B0.out.size)
    have P2 : Hid (0 < Z.ar.length → ∃ g, (Value.slice pss Z.ar.length css).ownBlock = some g ∧ w0.heap.size ≤ g ∧ g < W2.heap.size) := SS.out.1.place
    have z02 : w0.heap.size ≤ W2.heap.size := E2.out.size
    refine hK _ _ ?_
    clear hK E2 KS q_0 q_1 q_2 q_3 q_4 q_5
    go_wp2_with fail
    refine (KT.out _ B2.out).mono ?_
    rintro e w3 ⟨vx, rfl, s3, hb3⟩
    have B3 : Hid (Below wu.heap.size wu w3) := B2.out.trans (hb3.mono B2.out.size)
    have SS_w3 : Hid (SliceG w3 w0.heap.size (.slice pss Z.ar.length css) Z.ar) := SS.out.below hb3
    clear SS
    have Iss_w3 : Hid (InBoxG w3 bs (.slice pss Z.ar.length css) Z) := Iss.out.below hb3
    clear Iss
    have SX : Hid (SliceG w3 W2.heap.size vx L) := s3
    have P3 : Hid (0 < L.length → ∃ g, vx.ownBlock = some g ∧ W2.heap.size ≤ g ∧ g < w3.heap.size) := s3.1.place
    have z23 : W2.heap.size ≤ w3.heap.size := hb3.size
    clear s3 hb3
    have q30 : World.cell? w3 ⟨w.heap.size, 0, none⟩ = some (.string tp) := ((bcell B3.out).1 _ _ zu).trans qu0
    have q31 : World.cell? w3 ⟨w.heap.size, 1, none⟩ = some (.string si) := ((bcell B3.out).1 _ _ zu).trans qu1
    have q32 : World.cell? w3 ⟨w.heap.size, 2, none⟩ = some (.bool tc) := ((bcell B3.out).1 _ _ zu).trans qu2
    have q33 : World.cell? w3 ⟨w.heap.size, 3, none⟩ = some (.bool sa) := ((bcell B3.out).1 _ _ zu).trans qu3
    have q34 : World.cell? w3 ⟨w.heap.size, 4, none⟩ = some (.bool re) := ((bcell B3.out).1 _ _ zu).trans qu4
    have q35 : World.cell? w3 ⟨w.heap.size, 5, none⟩ = some (.bool ye) := ((bcell B3.out).1 _ _ zu).trans qu5
    go_wp2_with fail
    refine (toAsk_any tp si tc sa re ye _).mono ?_
    rintro e w3' ⟨rfl, hb3'⟩
    have B3' : Hid (Below wu.heap.size wu w3') := B3.out.trans (hb3'.mono B3.out.size)
    have SX' : Hid (SliceG w3' W2.heap.size vx L) := SX.out.below hb3'
    have SS' : Hid (SliceG w3' w0.heap.size (.slice pss Z.ar.length css) Z.ar) := SS_w3.out.below hb3'
    have Iss' : Hid (InBoxG w3' bs (.slice pss Z.ar.length css) Z) := Iss_w3.out.below hb3'
    have z33 : w3.heap.size ≤ w3'.heap.size := hb3'.size
    clear hb3' B3 SX SS_w3 Iss_w3 q30 q31 q32 q33 q34 q35
    go_wp2_with fail
    refine (KI.out _ _ _ B3'.out SX'.out).mono ?_
    rintro e w4 ⟨vg, rfl, ⟨sg, rfl, s4⟩, hb4⟩
    obtain ⟨psg, csg, hvsg⟩ : ∃ p c, sg = .slice p Z.ar.length c := by obtain ⟨⟨p, cap, e, -⟩, -⟩ := s4; exact ⟨p, cap, e⟩
    obtain ⟨W4, hW4⟩ : ∃ W, W = w4.alloc (.cells #[sg, .bool Z.us, .int .i64 Z.co] 33) := ⟨_, rfl⟩
    have HW4 : Hid (W4 = w4.alloc (.cells #[sg, .bool Z.us, .int .i64 Z.co] 33)) := hW4
    have AW4 : Below w4.heap.size w4 W4 := by rw [hW4]; exact (Below.refl _ _).alloc (Nat.le_refl _) _
    have Isg : Hid (InBoxG W4 w4.heap.size sg Z) := by show InBoxG _ _ _ _; rw [hW4]; exact inBoxG_made _ _ _ _
    have zW4 : w4.heap.size < W4.heap.size := by rw [hW4]; simp
    have A4 : Below w3'.heap.size w3' W4 := hb4.trans (AW4.mono hb4.size)
    have B4 : Hid (Below wu.heap.size wu W4) := B3'.out.trans (A4.mono B3'.out.size)
    have SS_W4 : Hid (SliceG W4 w0.heap.size (.slice pss Z.ar.length css) Z.ar) := SS'.out.below A4
    clear SS'
    have Iss_W4 : Hid (InBoxG W4 bs (.slice pss Z.ar.length css) Z) := Iss'.out.below A4
    clear Iss'
    have SX_W4 : Hid (SliceG W4 W2.heap.size vx L) := SX'.out.below A4
    clear SX'
    have SG : Hid (SliceG W4 w3'.heap.size sg Z.ar) := s4.below AW4
    have P4 : Hid (0 < Z.ar.length → ∃ g, sg.ownBlock = some g ∧ w3'.heap.size ≤ g ∧ g < w4.heap.size) := s4.1.place
    have z34 : w3'.heap.size ≤ w4.heap.size := hb4.size
    clear s4 hb4 AW4 hW4 A4
    have hvg := hvsg
    clear hvsg
    subst hvg
    go_upto_region 11 with fail
    rw [← HW4.out]
    clear HW4
    obtain ⟨u0, u1, u2, u3⟩ := Iss_W4.out
    obtain ⟨y0, y1, y2, y3⟩ := Isg.out
    go_wp2_with fail
    refine (eqGO_any (.slice psg Z.ar.length csg) (.slice pss Z.ar.length css) Z _ _ _ SG.out SS_W4.out (by omega)).mono ?_
    rintro e w5 ⟨rfl, hbw5⟩
    have Bw5 : Hid (Below wu.heap.size wu w5) := B4.out.trans (hbw5.mono B4.out.size)
    clear u0 u1 u2 u3
    clear y0 y1 y2 y3
    have SS_w5 : Hid (SliceG w5 w0.heap.size (.slice pss Z.ar.length css) Z.ar) := SS_W4.out.below hbw5
    clear SS_W4
    have Iss_w5 : Hid (InBoxG w5 bs (.slice pss Z.ar.length css) Z) := Iss_W4.out.below hbw5
    clear Iss_W4
    have SX_w5 : Hid (SliceG w5 W2.heap.size vx L) := SX_W4.out.below hbw5
    clear SX_W4
    have SG_w5 : Hid (SliceG w5 w3'.heap.size (.slice psg Z.ar.length csg) Z.ar) := SG.out.below hbw5
    clear SG
    have Isg_w5 : Hid (InBoxG w5 w4.heap.size (.slice psg Z.ar.length csg) Z) := Isg.out.below hbw5
    clear Isg
    have z45 : W4.heap.size ≤ w5.heap.size := hbw5.size
    clear hbw5
    go_wp2_with fail
    refine (KT.out _ Bw5.out).mono ?_
    rintro e w6 ⟨v6, rfl, s6, hb6⟩
    have B6 : Hid (Below wu.heap.size wu w6) := Bw5.out.trans (hb6.mono Bw5.out.size)
    have SS_w6 : Hid (SliceG w6 w0.heap.size (.slice pss Z.ar.length css) Z.ar) := SS_w5.out.below hb6
    clear SS_w5
    have Iss_w6 : Hid (InBoxG w6 bs (.slice pss Z.ar.length css) Z) := Iss_w5.out.below hb6
    clear Iss_w5
    have SX_w6 : Hid (SliceG w6 W2.heap.size vx L) := SX_w5.out.below hb6
    clear SX_w5
    have SG_w6 : Hid (SliceG w6 w3'.heap.size (.slice psg Z.ar.length csg) Z.ar) := SG_w5.out.below hb6
    clear SG_w5
    have Isg_w6 : Hid (InBoxG w6 w4.heap.size (.slice psg Z.ar.length csg) Z) := Isg_w5.out.below hb6
    clear Isg_w5
    have S6 : Hid (SliceG w6 w5.heap.size v6 L) := s6
    have z56 : w5.heap.size ≤ w6.heap.size := hb6.size
    clear hb6 s6
    go_wp2_with fail
    refine (eqGrantS_any vx v6 L _ _ _ SX_w6.out S6.out hl).mono ?_
    rintro e w7 ⟨rfl, hb7⟩
    have B7 : Hid (Below wu.heap.size wu w7) := B6.out.trans (hb7.mono B6.out.size)
    have SS_w7 : Hid (SliceG w7 w0.heap.size (.slice pss Z.ar.length css) Z.ar) := SS_w6.out.below hb7
    clear SS_w6
    have Iss_w7 : Hid (InBoxG w7 bs (.slice pss Z.ar.length css) Z) := Iss_w6.out.below hb7
    clear Iss_w6
    have SX_w7 : Hid (SliceG w7 W2.heap.size vx L) := SX_w6.out.below hb7
    clear SX_w6
    have SG_w7 : Hid (SliceG w7 w3'.heap.size (.slice psg Z.ar.length csg) Z.ar) := SG_w6.out.below hb7
    clear SG_w6
    have Isg_w7 : Hid (InBoxG w7 w4.heap.size (.slice psg Z.ar.length csg) Z) := Isg_w6.out.below hb7
    clear Isg_w6
    have z67 : w6.heap.size ≤ w7.heap.size := hb7.size
    clear hb7 S6
    go_wp2_with fail
    refine (markG_call vx L W2.heap.size w7 SX_w7.out (by omega) hl).mono ?_
    rintro e w8 ⟨rfl, -, G, hG1, hG2, hG3, hg8⟩
    have hGs : bs ≠ G := by omega
    have hGg : w4.heap.size ≠ G := by
      by_cases h0 : 0 < L.length
      · obtain ⟨g', e', h1', h2'⟩ := P3.out h0
        have e2 := hG2 h0
        rw [e'] at e2
        have := Option.some.inj e2
        omega
      · have := hG3 h0; omega
    have SS_w8 : Hid (SliceG w8 w0.heap.size (.slice pss Z.ar.length css) Z.ar) := SliceG.keepG SS_w7.out hg8 (fun h => by obtain ⟨g, e, h1, h2⟩ := P2.out h; exact ⟨g, e, by omega⟩)
    have SG_w8 : Hid (SliceG w8 w3'.heap.size (.slice psg Z.ar.length csg) Z.ar) := SliceG.keepG SG_w7.out hg8 (fun h => by
      obtain ⟨g, e, h1, h2⟩ := P4.out h
      refine ⟨g, e, ?_⟩
      by_cases h0 : 0 < L.length
      · obtain ⟨g', e', h1', h2'⟩ := P3.out h0
        have e2 := hG2 h0
        rw [e'] at e2
        have := Option.some.inj e2
        omega
      · have := hG3 h0; omega)
    have Iss_w8 : Hid (InBoxG w8 bs (.slice pss Z.ar.length css) Z) := Iss_w7.out.grown hg8 hGs
    have Isg_w8 : Hid (InBoxG w8 w4.heap.size (.slice psg Z.ar.length csg) Z) := Isg_w7.out.grown hg8 hGg
    have B8 : Hid (Below wu.heap.size wu w8) := B7.out.grown hg8 B7.out.size (fun j hj => by have := Option.some.inj hj; have := B2.out.size; omega)
    have z78 : w7.heap.size ≤ w8.heap.size := hg8.size
    have hm0 : decide ((((1 + L.length * 3 : Nat) : Int)) < 0) = false := by rw [decide_eq_false_iff_not]; omega
    clear hg8 hG1 hG2 hG3 hGs hGg P3 SS_w7 Iss_w7 SX_w7 SG_w7 Isg_w7
    generalize ((1 + L.length * 3 : Nat) : Int) = mL at *
    obtain ⟨u0, u1, u2, u3⟩ := Iss_w8.out
    obtain ⟨y0, y1, y2, y3⟩ := Isg_w8.out
    go_wp2_with fail
    refine (eqGO_any (.slice psg Z.ar.length csg) (.slice pss Z.ar.length css) Z _ _ _ SG_w8.out SS_w8.out (by omega)).mono ?_
    rintro e w9 ⟨rfl, hbw9⟩
    have Bw9 : Hid (Below wu.heap.size wu w9) := B8.out.trans (hbw9.mono B8.out.size)
    clear u0 u1 u2 u3
    clear y0 y1 y2 y3
    have SS_w9 : Hid (SliceG w9 w0.heap.size (.slice pss Z.ar.length css) Z.ar) := SS_w8.out.below hbw9
    clear SS_w8
    have Iss_w9 : Hid (InBoxG w9 bs (.slice pss Z.ar.length css) Z) := Iss_w8.out.below hbw9
    clear Iss_w8
    have SG_w9 : Hid (SliceG w9 w3'.heap.size (.slice psg Z.ar.length csg) Z.ar) := SG_w8.out.below hbw9
    clear SG_w8
    have Isg_w9 : Hid (InBoxG w9 w4.heap.size (.slice psg Z.ar.length csg) Z) := Isg_w8.out.below hbw9
    clear Isg_w8
    have z89 : w8.heap.size ≤ w9.heap.size := hbw9.size
    clear hbw9
    obtain ⟨y0, y1, y2, y3⟩ := Isg_w9.out
    go_wp2_with fail
    refine (markGO_call (.slice psg Z.ar.length csg) Z.us Z.co Z.ar w3'.heap.size w9 SG_w9.out (by omega) (by omega)).mono ?_
    rintro e w10 ⟨rfl, s10, G, hG1, hG2, hG3, hg10⟩
    clear y0 y1 y2 y3
    have hGs : bs ≠ G := by omega
    have hGg : w4.heap.size ≠ G := by
      by_cases h0 : 0 < Z.ar.length
      · obtain ⟨g', e', h1', h2'⟩ := P4.out h0
        have e2 := hG2 h0
        rw [e'] at e2
        have := Option.some.inj e2
        omega
      · have := hG3 h0; omega
    have SS_w10 : Hid (SliceG w10 w0.heap.size (.slice pss Z.ar.length css) Z.ar) := SliceG.keepG SS_w9.out hg10 (fun h => by obtain ⟨g, e, h1, h2⟩ := P2.out h; exact ⟨g, e, by omega⟩)
    have Iss_w10 : Hid (InBoxG w10 bs (.slice pss Z.ar.length css) Z) := Iss_w9.out.grown hg10 hGs
    have Isg_w10 : Hid (InBoxG w10 w4.heap.size (.slice psg Z.ar.length csg) Z) := Isg_w9.out.grown hg10 hGg
    have S10 : Hid (SliceR w10 w3'.heap.size 3 (.slice psg Z.ar.length csg) Z.ar.length (markGrC 1)) := s10
    have B10 : Hid (Below wu.heap.size wu w10) := Bw9.out.grown hg10 Bw9.out.size (fun j hj => by have := Option.some.inj hj; have := B2.out.size; omega)
    have KH : Hid (∀ W, Below w10.heap.size w10 W → Calls Try.prog 21 #[.agg #[.slice psg Z.ar.length csg, .bool Z.us, .int .i64 Z.co], .int .i64 1] W fun e w' => e = .returned (.int .i64 ((1 + Z.ar.length * 3 : Nat) : Int)) ∧ Below W.heap.size W w') := fun W hb => heldGO_any (.slice psg Z.ar.length csg) Z.us Z.co Z.ar.length _ W (SliceR.below S10.out hb) (by omega)
    have hm1 : decide ((((1 + Z.ar.length * 3 : Nat) : Int)) < 0) = false := by rw [decide_eq_false_iff_not]; omega
    clear hg10 hG1 hG2 hG3 hGs hGg s10 S10 P2 P4 SS_w9 Iss_w9 SG_w9 Isg_w9
    generalize ((1 + Z.ar.length * 3 : Nat) : Int) = mZ at *
    obtain ⟨y0, y1, y2, y3⟩ := Isg_w10.out
    go_wp2_with fail
    refine (KH.out _ (Below.refl _ _)).mono ?_
    rintro e w11 ⟨rfl, hb11⟩
    clear y0 y1 y2 y3
    have B11 : Hid (Below wu.heap.size wu w11) := B10.out.trans (hb11.mono B10.out.size)
    have A11 : Hid (Below w10.heap.size w10 w11) := hb11
    have SS_w11 : Hid (SliceG w11 w0.heap.size (.slice pss Z.ar.length css) Z.ar) := SS_w10.out.below hb11
    clear SS_w10
    have Iss_w11 : Hid (InBoxG w11 bs (.slice pss Z.ar.length css) Z) := Iss_w10.out.below hb11
    clear Iss_w10
    have Isg_w11 : Hid (InBoxG w11 w4.heap.size (.slice psg Z.ar.length csg) Z) := Isg_w10.out.below hb11
    clear Isg_w10
    clear hb11
    go_upto_region 27 with fail
    have q_0 : World.cell? w11 ⟨w.heap.size, 0, none⟩ = some (.string tp) := ((bcell B11.out).1 _ _ zu).trans qu0
    have q_1 : World.cell? w11 ⟨w.heap.size, 1, none⟩ = some (.string si) := ((bcell B11.out).1 _ _ zu).trans qu1
    have q_2 : World.cell? w11 ⟨w.heap.size, 2, none⟩ = some (.bool tc) := ((bcell B11.out).1 _ _ zu).trans qu2
    have q_3 : World.cell? w11 ⟨w.heap.size, 3, none⟩ = some (.bool sa) := ((bcell B11.out).1 _ _ zu).trans qu3
    have q_4 : World.cell? w11 ⟨w.heap.size, 4, none⟩ = some (.bool re) := ((bcell B11.out).1 _ _ zu).trans qu4
    have q_5 : World.cell? w11 ⟨w.heap.size, 5, none⟩ = some (.bool ye) := ((bcell B11.out).1 _ _ zu).trans qu5
    have z0 : w.heap.size < w11.heap.size := Nat.lt_of_lt_of_le zu B11.out.size
    rename_i K hK
    obtain ⟨tail, -⟩ : (∀ (b2 : Nat) (u15 u16 u17 u18 u19 u20 u21 u22 u23 u24 u25 u26 u27 u28 u29 u30 u31 u32 u33 u34 u35 u36 u37 u38 u39 u40 u41 u42 u43 u44 u45 u46 u47 u48 u49 u50 u51 u52 u53 u54 u55 u56 u57 u58 u59 u60 u61 u62 u63 u64 u65 u66 u67 u68 u69 u70 u71 u72 u73 u74 u75 u76 u77 u78 u79 u80 u81 u82 u83 u84 u85 u86 sh : Value) (W13 : World), Hid (Below w11.heap.size w11 W13) → Hid (InBoxG W13 b2 sh Z) → Hid (SliceG W13 w11.heap.size sh Z.ar) → K { tmps := #[.slice a L.length cap, .agg #[.string tp, .string si, .bool tc, .bool sa, .bool re, .bool ye], .int .i64 now, undef, .pointer (some ⟨w.heap.size, 0, none⟩), undef, .bool false, .int .i64 r', .pointer (some ⟨bs, 0, none⟩), vx, .pointer (some ⟨w4.heap.size, 0, none⟩), .int .i64 mL, .int .i64 mZ, .int .i64 mZ, .pointer (some ⟨b2, 0, none⟩), u15, u16, u17, u18, u19, u20, u21, u22, u23, u24, u25, u26, u27, u28, u29, u30, u31, u32, u33, u34, u35, u36, u37, u38, u39, u40, u41, u42, u43, u44, u45, u46, u47, u48, u49, u50, u51, u52, u53, u54, u55, u56, u57, u58, u59, u60, u61, u62, u63, u64, u65, u66, u67, u68, u69, u70, u71, u72, u73, u74, u75, u76, u77, u78, u79, u80, u81, u82, u83, u84, u85, u86], defers := [] } W13) ∧ True := by
      refine ⟨?_, trivial⟩
      intro b2 u15 u16 u17 u18 u19 u20 u21 u22 u23 u24 u25 u26 u27 u28 u29 u30 u31 u32 u33 u34 u35 u36 u37 u38 u39 u40 u41 u42 u43 u44 u45 u46 u47 u48 u49 u50 u51 u52 u53 u54 u55 u56 u57 u58 u59 u60 u61 u62 u63 u64 u65 u66 u67 u68 u69 u70 u71 u72 u73 u74 u75 u76 u77 u78 u79 u80 u81 u82 u83 u84 u85 u86 sh W13 E13 Ish SH
      obtain ⟨psh, csh, hvsh⟩ : ∃ p c, sh = .slice p Z.ar.length c := by obtain ⟨⟨p, cap, e, -⟩, -⟩ := SH.out; exact ⟨p, cap, e⟩
      subst hvsh
      have B13 : Hid (Below wu.heap.size wu W13) := B11.out.trans (E13.out.mono B11.out.size)
      have C13 : Hid (Below w10.heap.size w10 W13) := A11.out.trans (E13.out.mono A11.out.size)
      have SS_W13 : Hid (SliceG W13 w0.heap.size (.slice pss Z.ar.length css) Z.ar) := SS_w11.out.below E13.out
      have Iss_W13 : Hid (InBoxG W13 bs (.slice pss Z.ar.length css) Z) := Iss_w11.out.below E13.out
      have Isg_W13 : Hid (InBoxG W13 w4.heap.size (.slice psg Z.ar.length csg) Z) := Isg_w11.out.below E13.out
      refine hK _ _ ?_
      clear hK E13 KT KI SS_w11 Iss_w11 Isg_w11 q_0 q_1 q_2 q_3 q_4 q_5
      obtain ⟨x0, x1, x2, x3⟩ := Ish.out
      obtain ⟨u0, u1, u2, u3⟩ := Iss_W13.out
      go_wp2_with fail
      refine (eqGO_any (.slice psh Z.ar.length csh) (.slice pss Z.ar.length css) Z _ _ _ SH.out SS_W13.out (by omega)).mono ?_
      rintro e w14 ⟨rfl, hbw14⟩
      have Bw14 : Hid (Below wu.heap.size wu w14) := B13.out.trans (hbw14.mono B13.out.size)
      clear u0 u1 u2 u3
      clear x0 x1 x2 x3
      have SS_w14 : Hid (SliceG w14 w0.heap.size (.slice pss Z.ar.length css) Z.ar) := SS_W13.out.below hbw14
      clear SS_W13
      have Iss_w14 : Hid (InBoxG w14 bs (.slice pss Z.ar.length css) Z) := Iss_W13.out.below hbw14
      clear Iss_W13
      have Isg_w14 : Hid (InBoxG w14 w4.heap.size (.slice psg Z.ar.length csg) Z) := Isg_W13.out.below hbw14
      clear Isg_W13
      have Ish_w14 : Hid (InBoxG w14 b2 (.slice psh Z.ar.length csh) Z) := Ish.out.below hbw14
      clear Ish
      have C14 : Hid (Below w10.heap.size w10 w14) := C13.out.trans (hbw14.mono C13.out.size)
      clear hbw14
      obtain ⟨y0, y1, y2, y3⟩ := Isg_w14.out
      go_wp2_with fail
      refine (KH.out _ C14.out).mono ?_
      rintro e w15 ⟨rfl, hb15⟩
      go_wp2
      go_ret
      exact ⟨rfl, Bu.out.trans ((Bw14.out.trans (hb15.mono Bw14.out.size)).mono Bu.out.size)⟩
    clear hK
    refine wp_region_held_drew (S := (fun w' => w'.cell? ⟨w.heap.size, 0, none⟩ = some (.string tp) ∧ w'.cell? ⟨w.heap.size, 1, none⟩ = some (.string si) ∧ w'.cell? ⟨w.heap.size, 2, none⟩ = some (.bool tc) ∧ w'.cell? ⟨w.heap.size, 3, none⟩ = some (.bool sa) ∧ w'.cell? ⟨w.heap.size, 4, none⟩ = some (.bool re) ∧ w'.cell? ⟨w.heap.size, 5, none⟩ = some (.bool ye))) (by kernel_rfl) ?_ (fun hH0 => ?_)
    · (try dsimp only)
      first | go_keep | (refine ⟨?_, ?_, ?_, ?_, ?_, ?_⟩ <;> assumption)
    have Er27d : Hid (Below w11.heap.size w11 w11.drew) := (Below.refl _ _).drew
    refine wpAnyH_take (i := 0) (oi := { dst := some 69, op := Op.move (Operand.tmp 0), type := 22, pos := "exact.go:3027", after := #[], guard := none }) (v := ?vr271) rfl (by kernel_rfl) (by kernel_rfl) (by kernel_rfl) (fun _ _ _ h => h) (Or.inl ⟨by rfl, ?hyr271⟩) (by assumption) ?restr271
    case hyr271 =>
      intro w hSw
      (try dsimp only at hSw)
      go_simp
      try with_reducible rfl
    try simp only [Act.put, List.setIfInBounds_toArray, List.set_cons_zero, List.set_cons_succ]
    refine wpAnyH_take (i := 2) (oi := { dst := some 71, op := Op.load 39 (Operand.tmp 4), type := 39, pos := "exact.go:3027", after := #[], guard := none }) (v := ?vr272) rfl (by kernel_rfl) (by kernel_rfl) (by kernel_rfl) (fun _ _ _ h => h) (Or.inl ⟨by rfl, ?hyr272⟩) (by assumption) ?restr272
    case hyr272 =>
      intro w hSw
      (try dsimp only at hSw)
      go_simp
      try with_reducible rfl
    try simp only [Act.put, List.setIfInBounds_toArray, List.set_cons_zero, List.set_cons_succ]
    refine wpAnyH_take (i := 4) (oi := { dst := some 73, op := Op.move (Operand.tmp 2), type := 2, pos := "exact.go:3027", after := #[], guard := none }) (v := ?vr273) rfl (by kernel_rfl) (by kernel_rfl) (by kernel_rfl) (fun _ _ _ h => h) (Or.inl ⟨by rfl, ?hyr273⟩) (by assumption) ?restr273
    case hyr273 =>
      intro w hSw
      (try dsimp only at hSw)
      go_simp
      try with_reducible rfl
    try simp only [Act.put, List.setIfInBounds_toArray, List.set_cons_zero, List.set_cons_succ]
    refine wpAnyH_ready (rs := [1, 6]) (by kernel_rfl) (by simp) ?_
    refine AllReadyH.cons (o := { dst := some 70, op := Op.call { callee := Callee.value (Operand.func 10), args := #[Operand.tmp 69], argTypes := #[22] }, type := 24, pos := "exact.go:3027", after := #[{ on := 0, ground := Ground.data }], guard := none }) rfl (fun K hK => ?_) (AllReadyH.cons (o := { dst := some 14, op := Op.alloc 33, type := 0, pos := "exact.go:3027", after := #[], guard := none }) rfl (fun K hK => ?_) AllReadyH.nil)
    · skip
      go_simp
      refine (KT.out _ (B11.out.trans (Er27d.out.mono B11.out.size))).mono ?_
      rintro e wr27_1 ⟨v1, rfl, s1, hb'⟩
      have hbwr27_1 : Below (World.heap w11.drew).size w11.drew wr27_1 := hb'
      have Ewr27_1 : Hid (Below w11.heap.size w11 wr27_1) := Er27d.out.trans (hbwr27_1.mono Er27d.out.size)
      have Qwr27_1_0 := ((bcell Ewr27_1.out).1 _ _ z0).trans q_0
      have Qwr27_1_1 := ((bcell Ewr27_1.out).1 _ _ z0).trans q_1
      have Qwr27_1_2 := ((bcell Ewr27_1.out).1 _ _ z0).trans q_2
      have Qwr27_1_3 := ((bcell Ewr27_1.out).1 _ _ z0).trans q_3
      have Qwr27_1_4 := ((bcell Ewr27_1.out).1 _ _ z0).trans q_4
      have Qwr27_1_5 := ((bcell Ewr27_1.out).1 _ _ z0).trans q_5
      have ywr27_1 := hbwr27_1.size
      have S1wr27_1 : Hid (SliceG wr27_1 (World.heap w11.drew).size v1 L) := s1
      clear s1 hb' hbwr27_1
      try (go_wp2_with fail)
      refine hK.out _ _ ?_ (fun hH1 => ?_)
      · (try dsimp only)
        first | go_keep | (refine ⟨?_, ?_, ?_, ?_, ?_, ?_⟩ <;> assumption)
      clear hK K hH0
      try simp only [Act.put, List.setIfInBounds_toArray, List.set_cons_zero, List.set_cons_succ]
      refine wpAnyH_ready (rs := [3, 6]) (by kernel_rfl) (by simp) ?_
      refine AllReadyH.cons (o := { dst := some 72, op := Op.call { callee := Callee.value (Operand.func 24), args := #[Operand.tmp 71], argTypes := #[39] }, type := 42, pos := "exact.go:3027", after := #[{ on := 2, ground := Ground.data }, { on := 1, ground := Ground.chain }], guard := none }) rfl (fun K hK => ?_) (AllReadyH.cons (o := { dst := some 14, op := Op.alloc 33, type := 0, pos := "exact.go:3027", after := #[], guard := none }) rfl (fun K hK => ?_) AllReadyH.nil)
      · skip
        go_simp
        refine (toAsk_any tp si tc sa re ye _).mono ?_
        rintro e wr27_2 ⟨rfl, hb'⟩
        have hbwr27_2 : Below (World.heap wr27_1).size wr27_1 wr27_2 := hb'
        have Ewr27_2 : Hid (Below w11.heap.size w11 wr27_2) := Ewr27_1.out.trans (hbwr27_2.mono Ewr27_1.out.size)
        have Qwr27_2_0 := ((bcell Ewr27_2.out).1 _ _ z0).trans q_0
        have Qwr27_2_1 := ((bcell Ewr27_2.out).1 _ _ z0).trans q_1
        have Qwr27_2_2 := ((bcell Ewr27_2.out).1 _ _ z0).trans q_2
        have Qwr27_2_3 := ((bcell Ewr27_2.out).1 _ _ z0).trans q_3
        have Qwr27_2_4 := ((bcell Ewr27_2.out).1 _ _ z0).trans q_4
        have Qwr27_2_5 := ((bcell Ewr27_2.out).1 _ _ z0).trans q_5
        have S1wr27_2 : Hid (SliceG wr27_2 (World.heap w11.drew).size v1 L) := S1wr27_1.out.below hbwr27_2
        have ywr27_2 := hbwr27_2.size
        clear hb' hbwr27_2
        try (go_wp2_with fail)
        refine hK.out _ _ ?_ (fun hH2 => ?_)
        · (try dsimp only)
          first | go_keep | (refine ⟨?_, ?_, ?_, ?_, ?_, ?_⟩ <;> assumption)
        clear hK K hH1
        try simp only [Act.put, List.setIfInBounds_toArray, List.set_cons_zero, List.set_cons_succ]
        refine wpAnyH_ready (rs := [5, 6]) (by kernel_rfl) (by simp) ?_
        refine AllReadyH.cons (o := { dst := some 74, op := Op.call { callee := Callee.value (Operand.func 25), args := #[Operand.tmp 70, Operand.tmp 72, Operand.tmp 73], argTypes := #[24, 42, 2] }, type := 33, pos := "exact.go:3027", after := #[{ on := 1, ground := Ground.data }, { on := 3, ground := Ground.data }, { on := 4, ground := Ground.data }, { on := 3, ground := Ground.chain }], guard := none }) rfl (fun K hK => ?_) (AllReadyH.cons (o := { dst := some 14, op := Op.alloc 33, type := 0, pos := "exact.go:3027", after := #[], guard := none }) rfl (fun K hK => ?_) AllReadyH.nil)
        · skip
          go_simp
          refine (KI.out _ _ _ (B11.out.trans (Ewr27_2.out.mono B11.out.size)) S1wr27_2.out).mono ?_
          rintro e wr27_3 ⟨vx', rfl, ⟨sx, rfl, sx1⟩, hb'⟩
          obtain ⟨psx, csx, hsx⟩ : ∃ p c, sx = .slice p Z.ar.length c := by obtain ⟨⟨p, cap, e, -⟩, -⟩ := sx1; exact ⟨p, cap, e⟩
          subst hsx
          have hbwr27_3 : Below (World.heap wr27_2).size wr27_2 wr27_3 := hb'
          have Ewr27_3 : Hid (Below w11.heap.size w11 wr27_3) := Ewr27_2.out.trans (hbwr27_3.mono Ewr27_2.out.size)
          have Qwr27_3_0 := ((bcell Ewr27_3.out).1 _ _ z0).trans q_0
          have Qwr27_3_1 := ((bcell Ewr27_3.out).1 _ _ z0).trans q_1
          have Qwr27_3_2 := ((bcell Ewr27_3.out).1 _ _ z0).trans q_2
          have Qwr27_3_3 := ((bcell Ewr27_3.out).1 _ _ z0).trans q_3
          have Qwr27_3_4 := ((bcell Ewr27_3.out).1 _ _ z0).trans q_4
          have Qwr27_3_5 := ((bcell Ewr27_3.out).1 _ _ z0).trans q_5
          have S1wr27_3 : Hid (SliceG wr27_3 (World.heap w11.drew).size v1 L) := S1wr27_2.out.below hbwr27_3
          have ywr27_3 := hbwr27_3.size
          have SSwr27_3 : Hid (SliceG wr27_3 w11.heap.size (.slice psx Z.ar.length csx) Z.ar) := sx1.mono Ewr27_2.out.size
          clear sx1 hb' hbwr27_3
          try (go_wp2_with fail)
          refine hK.out _ _ ?_ (fun hH3 => ?_)
          · (try dsimp only)
            first | go_keep | (refine ⟨?_, ?_, ?_, ?_, ?_, ?_⟩ <;> assumption)
          clear hK K hH2
          try simp only [Act.put, List.setIfInBounds_toArray, List.set_cons_zero, List.set_cons_succ]
          refine wpAnyH_ready (rs := [6]) (by kernel_rfl) (by simp) ?_
          refine AllReadyH.cons (o := { dst := some 14, op := Op.alloc 33, type := 0, pos := "exact.go:3027", after := #[], guard := none }) rfl (fun K hK => ?_) AllReadyH.nil
          · skip
            obtain ⟨wr27_4, hwr27_4⟩ : ∃ W, W = World.alloc wr27_3 (.cells #[.slice none 0 0, .bool false, .int .i64 0] 33) := ⟨_, rfl⟩
            have Hwr27_4 : Hid (wr27_4 = World.alloc wr27_3 (.cells #[.slice none 0 0, .bool false, .int .i64 0] 33)) := hwr27_4
            have hbwr27_4 : Below (World.heap wr27_3).size wr27_3 wr27_4 := by rw [hwr27_4]; exact (Below.refl _ _).alloc (Nat.le_refl _) _
            have Ewr27_4 : Hid (Below w11.heap.size w11 wr27_4) := Ewr27_3.out.trans (hbwr27_4.mono Ewr27_3.out.size)
            have Qwr27_4_0 := ((bcell Ewr27_4.out).1 _ _ z0).trans q_0
            have Qwr27_4_1 := ((bcell Ewr27_4.out).1 _ _ z0).trans q_1
            have Qwr27_4_2 := ((bcell Ewr27_4.out).1 _ _ z0).trans q_2
            have Qwr27_4_3 := ((bcell Ewr27_4.out).1 _ _ z0).trans q_3
            have Qwr27_4_4 := ((bcell Ewr27_4.out).1 _ _ z0).trans q_4
            have Qwr27_4_5 := ((bcell Ewr27_4.out).1 _ _ z0).trans q_5
            have S1wr27_4 : Hid (SliceG wr27_4 (World.heap w11.drew).size v1 L) := S1wr27_3.out.below hbwr27_4
            have SSwr27_4 : Hid (SliceG wr27_4 w11.heap.size (.slice psx Z.ar.length csx) Z.ar) := SSwr27_3.out.below hbwr27_4
            have ywr27_4 := hbwr27_4.size
            obtain ⟨bwr27_4, hqwr27_4⟩ : ∃ b, b = (World.heap wr27_3).size := ⟨_, rfl⟩
            have Hqwr27_4 : Hid (bwr27_4 = (World.heap wr27_3).size) := hqwr27_4
            have Xwr27_4 : Hid (BoxG wr27_4 bwr27_4) := by show BoxG _ _; rw [hwr27_4, hqwr27_4]; exact boxG_made _ _
            have gwr27_4 : bwr27_4 < wr27_4.heap.size := by rw [hwr27_4, hqwr27_4]; simp
            have ewr27_4 : w11.heap.size ≤ bwr27_4 := by rw [hqwr27_4]; exact Ewr27_3.out.size
            have PN : Hid (0 < Z.ar.length → ∃ g, (Value.slice psx Z.ar.length csx).ownBlock = some g ∧ g ≠ bwr27_4) := fun h => by
              obtain ⟨g, e, -, h2⟩ := SSwr27_3.out.1.place h
              exact ⟨g, e, by rw [hqwr27_4]; exact Nat.ne_of_lt h2⟩
            clear hwr27_4 hbwr27_4 hqwr27_4
            go_simp
            rw [← Hwr27_4.out, ← Hqwr27_4.out]
            clear Hwr27_4 Hqwr27_4
            refine hK.out _ _ ?_ (fun hH4 => ?_)
            · (try dsimp only)
              first | go_keep | (refine ⟨?_, ?_, ?_, ?_, ?_, ?_⟩ <;> assumption)
            clear hK K hH3
            try simp only [Act.put, List.setIfInBounds_toArray, List.set_cons_zero, List.set_cons_succ]
            refine wpAnyH_ready (rs := [7]) (by kernel_rfl) (by simp) ?_
            refine AllReadyH.cons (o := { dst := none, op := Op.store 33 (Operand.tmp 14) (Operand.tmp 74), type := 0, pos := "exact.go:3027", after := #[{ on := 6, ground := Ground.data }, { on := 5, ground := Ground.data }, { on := 5, ground := Ground.chain }, { on := 0, ground := Ground.phase }, { on := 1, ground := Ground.phase }, { on := 2, ground := Ground.phase }, { on := 3, ground := Ground.phase }, { on := 4, ground := Ground.phase }, { on := 5, ground := Ground.phase }, { on := 6, ground := Ground.phase }], guard := none }) rfl (fun K hK => ?_) AllReadyH.nil
            · skip
              obtain ⟨x0, x1, x2, f0, f1, f2, hlt⟩ := Xwr27_4.out
              have hne : ¬ w.heap.size = bwr27_4 := by have := z0; have := ewr27_4; omega
              obtain ⟨wr27_5, hwr27_5⟩ : ∃ W, W = ((World.setCell wr27_4 ⟨bwr27_4, 0, none⟩ (.slice psx Z.ar.length csx)).setCell ⟨bwr27_4, 1, none⟩ (.bool Z.us)).setCell ⟨bwr27_4, 2, none⟩ (.int .i64 Z.co) := ⟨_, rfl⟩
              have Hwr27_5 : Hid (wr27_5 = ((World.setCell wr27_4 ⟨bwr27_4, 0, none⟩ (.slice psx Z.ar.length csx)).setCell ⟨bwr27_4, 1, none⟩ (.bool Z.us)).setCell ⟨bwr27_4, 2, none⟩ (.int .i64 Z.co)) := hwr27_5
              have Ewr27_5 : Hid (Below w11.heap.size w11 wr27_5) := by show Below _ _ _; rw [hwr27_5]; exact Ewr27_4.out.trans ((store3G_below (Below.refl bwr27_4 wr27_4)).mono ewr27_4)
              have Qwr27_5_0 := ((bcell Ewr27_5.out).1 _ _ z0).trans q_0
              have Qwr27_5_1 := ((bcell Ewr27_5.out).1 _ _ z0).trans q_1
              have Qwr27_5_2 := ((bcell Ewr27_5.out).1 _ _ z0).trans q_2
              have Qwr27_5_3 := ((bcell Ewr27_5.out).1 _ _ z0).trans q_3
              have Qwr27_5_4 := ((bcell Ewr27_5.out).1 _ _ z0).trans q_4
              have Qwr27_5_5 := ((bcell Ewr27_5.out).1 _ _ z0).trans q_5
              have Iwr27_5 : Hid (InBoxG wr27_5 bwr27_4 (.slice psx Z.ar.length csx) Z) := by show InBoxG _ _ _ _; rw [hwr27_5]; exact inBoxG_stored Xwr27_4.out
              have SSwr27_5 : Hid (SliceG wr27_5 w11.heap.size (.slice psx Z.ar.length csx) Z.ar) := by show SliceG _ _ _ _; rw [hwr27_5]; exact keep_cell (keep_cell (keep_cell SSwr27_4.out PN.out) PN.out) PN.out
              clear hwr27_5
              go_simp
              rw [← Hwr27_5.out]
              clear Hwr27_5
              refine hK.out _ _ ?_ (fun hH5 => ?_)
              · (try dsimp only)
                first | go_keep | (refine ⟨?_, ?_, ?_, ?_, ?_, ?_⟩ <;> assumption)
              clear hK K hH4
              try simp only [Act.put, List.setIfInBounds_toArray, List.set_cons_zero, List.set_cons_succ]
              refine wpAnyH_done (by kernel_rfl) ?_ _
              exact tail bwr27_4 _ _ _ _ _ _ _ _ _ _ _ _ _ _ _ _ _ _ _ _ _ _ _ _ _ _ _ _ _ _ _ _ _ _ _ _ _ _ _ _ _ _ _ _ _ _ _ _ _ _ _ _ _ _ _ _ _ _ _ _ _ _ _ _ _ _ _ _ _ _ _ _ _ wr27_5 Ewr27_5 Iwr27_5 SSwr27_5
        · skip
          obtain ⟨wr27_6, hwr27_6⟩ : ∃ W, W = World.alloc wr27_2 (.cells #[.slice none 0 0, .bool false, .int .i64 0] 33) := ⟨_, rfl⟩
          have Hwr27_6 : Hid (wr27_6 = World.alloc wr27_2 (.cells #[.slice none 0 0, .bool false, .int .i64 0] 33)) := hwr27_6
          have hbwr27_6 : Below (World.heap wr27_2).size wr27_2 wr27_6 := by rw [hwr27_6]; exact (Below.refl _ _).alloc (Nat.le_refl _) _
          have Ewr27_6 : Hid (Below w11.heap.size w11 wr27_6) := Ewr27_2.out.trans (hbwr27_6.mono Ewr27_2.out.size)
          have Qwr27_6_0 := ((bcell Ewr27_6.out).1 _ _ z0).trans q_0
          have Qwr27_6_1 := ((bcell Ewr27_6.out).1 _ _ z0).trans q_1
          have Qwr27_6_2 := ((bcell Ewr27_6.out).1 _ _ z0).trans q_2
          have Qwr27_6_3 := ((bcell Ewr27_6.out).1 _ _ z0).trans q_3
          have Qwr27_6_4 := ((bcell Ewr27_6.out).1 _ _ z0).trans q_4
          have Qwr27_6_5 := ((bcell Ewr27_6.out).1 _ _ z0).trans q_5
          have S1wr27_6 : Hid (SliceG wr27_6 (World.heap w11.drew).size v1 L) := S1wr27_2.out.below hbwr27_6
          have ywr27_6 := hbwr27_6.size
          obtain ⟨bwr27_6, hqwr27_6⟩ : ∃ b, b = (World.heap wr27_2).size := ⟨_, rfl⟩
          have Hqwr27_6 : Hid (bwr27_6 = (World.heap wr27_2).size) := hqwr27_6
          have Xwr27_6 : Hid (BoxG wr27_6 bwr27_6) := by show BoxG _ _; rw [hwr27_6, hqwr27_6]; exact boxG_made _ _
          have gwr27_6 : bwr27_6 < wr27_6.heap.size := by rw [hwr27_6, hqwr27_6]; simp
          have ewr27_6 : w11.heap.size ≤ bwr27_6 := by rw [hqwr27_6]; exact Ewr27_2.out.size
          clear hwr27_6 hbwr27_6 hqwr27_6
          go_simp
          rw [← Hwr27_6.out, ← Hqwr27_6.out]
          clear Hwr27_6 Hqwr27_6
          refine hK.out _ _ ?_ (fun hH3 => ?_)
          · (try dsimp only)
            first | go_keep | (refine ⟨?_, ?_, ?_, ?_, ?_, ?_⟩ <;> assumption)
          clear hK K hH2
          try simp only [Act.put, List.setIfInBounds_toArray, List.set_cons_zero, List.set_cons_succ]
          refine wpAnyH_ready (rs := [5]) (by kernel_rfl) (by simp) ?_
          refine AllReadyH.cons (o := { dst := some 74, op := Op.call { callee := Callee.value (Operand.func 25), args := #[Operand.tmp 70, Operand.tmp 72, Operand.tmp 73], argTypes := #[24, 42, 2] }, type := 33, pos := "exact.go:3027", after := #[{ on := 1, ground := Ground.data }, { on := 3, ground := Ground.data }, { on := 4, ground := Ground.data }, { on := 3, ground := Ground.chain }], guard := none }) rfl (fun K hK => ?_) AllReadyH.nil
          · skip
            go_simp
            refine (KI.out _ _ _ (B11.out.trans (Ewr27_6.out.mono B11.out.size)) S1wr27_6.out).mono ?_
            rintro e wr27_7 ⟨vx', rfl, ⟨sx, rfl, sx1⟩, hb'⟩
            obtain ⟨psx, csx, hsx⟩ : ∃ p c, sx = .slice p Z.ar.length c := by obtain ⟨⟨p, cap, e, -⟩, -⟩ := sx1; exact ⟨p, cap, e⟩
            subst hsx
            have hbwr27_7 : Below (World.heap wr27_6).size wr27_6 wr27_7 := hb'
            have Ewr27_7 : Hid (Below w11.heap.size w11 wr27_7) := Ewr27_6.out.trans (hbwr27_7.mono Ewr27_6.out.size)
            have Qwr27_7_0 := ((bcell Ewr27_7.out).1 _ _ z0).trans q_0
            have Qwr27_7_1 := ((bcell Ewr27_7.out).1 _ _ z0).trans q_1
            have Qwr27_7_2 := ((bcell Ewr27_7.out).1 _ _ z0).trans q_2
            have Qwr27_7_3 := ((bcell Ewr27_7.out).1 _ _ z0).trans q_3
            have Qwr27_7_4 := ((bcell Ewr27_7.out).1 _ _ z0).trans q_4
            have Qwr27_7_5 := ((bcell Ewr27_7.out).1 _ _ z0).trans q_5
            have S1wr27_7 : Hid (SliceG wr27_7 (World.heap w11.drew).size v1 L) := S1wr27_6.out.below hbwr27_7
            have Xwr27_7 : Hid (BoxG wr27_7 bwr27_6) := Xwr27_6.out.below hbwr27_7
            have ywr27_7 := hbwr27_7.size
            have SSwr27_7 : Hid (SliceG wr27_7 w11.heap.size (.slice psx Z.ar.length csx) Z.ar) := sx1.mono Ewr27_6.out.size
            have PN : Hid (0 < Z.ar.length → ∃ g, (Value.slice psx Z.ar.length csx).ownBlock = some g ∧ g ≠ bwr27_6) := fun h => by
              obtain ⟨g, e, h1, -⟩ := sx1.1.place h
              exact ⟨g, e, by have := Xwr27_6.out.lt; omega⟩
            clear sx1 hb' hbwr27_7
            try (go_wp2_with fail)
            refine hK.out _ _ ?_ (fun hH4 => ?_)
            · (try dsimp only)
              first | go_keep | (refine ⟨?_, ?_, ?_, ?_, ?_, ?_⟩ <;> assumption)
            clear hK K hH3
            try simp only [Act.put, List.setIfInBounds_toArray, List.set_cons_zero, List.set_cons_succ]
            refine wpAnyH_ready (rs := [7]) (by kernel_rfl) (by simp) ?_
            refine AllReadyH.cons (o := { dst := none, op := Op.store 33 (Operand.tmp 14) (Operand.tmp 74), type := 0, pos := "exact.go:3027", after := #[{ on := 6, ground := Ground.data }, { on := 5, ground := Ground.data }, { on := 5, ground := Ground.chain }, { on := 0, ground := Ground.phase }, { on := 1, ground := Ground.phase }, { on := 2, ground := Ground.phase }, { on := 3, ground := Ground.phase }, { on := 4, ground := Ground.phase }, { on := 5, ground := Ground.phase }, { on := 6, ground := Ground.phase }], guard := none }) rfl (fun K hK => ?_) AllReadyH.nil
            · skip
              obtain ⟨x0, x1, x2, f0, f1, f2, hlt⟩ := Xwr27_7.out
              have hne : ¬ w.heap.size = bwr27_6 := by have := z0; have := ewr27_6; omega
              obtain ⟨wr27_8, hwr27_8⟩ : ∃ W, W = ((World.setCell wr27_7 ⟨bwr27_6, 0, none⟩ (.slice psx Z.ar.length csx)).setCell ⟨bwr27_6, 1, none⟩ (.bool Z.us)).setCell ⟨bwr27_6, 2, none⟩ (.int .i64 Z.co) := ⟨_, rfl⟩
              have Hwr27_8 : Hid (wr27_8 = ((World.setCell wr27_7 ⟨bwr27_6, 0, none⟩ (.slice psx Z.ar.length csx)).setCell ⟨bwr27_6, 1, none⟩ (.bool Z.us)).setCell ⟨bwr27_6, 2, none⟩ (.int .i64 Z.co)) := hwr27_8
              have Ewr27_8 : Hid (Below w11.heap.size w11 wr27_8) := by show Below _ _ _; rw [hwr27_8]; exact Ewr27_7.out.trans ((store3G_below (Below.refl bwr27_6 wr27_7)).mono ewr27_6)
              have Qwr27_8_0 := ((bcell Ewr27_8.out).1 _ _ z0).trans q_0
              have Qwr27_8_1 := ((bcell Ewr27_8.out).1 _ _ z0).trans q_1
              have Qwr27_8_2 := ((bcell Ewr27_8.out).1 _ _ z0).trans q_2
              have Qwr27_8_3 := ((bcell Ewr27_8.out).1 _ _ z0).trans q_3
              have Qwr27_8_4 := ((bcell Ewr27_8.out).1 _ _ z0).trans q_4
              have Qwr27_8_5 := ((bcell Ewr27_8.out).1 _ _ z0).trans q_5
              have Iwr27_8 : Hid (InBoxG wr27_8 bwr27_6 (.slice psx Z.ar.length csx) Z) := by show InBoxG _ _ _ _; rw [hwr27_8]; exact inBoxG_stored Xwr27_7.out
              have SSwr27_8 : Hid (SliceG wr27_8 w11.heap.size (.slice psx Z.ar.length csx) Z.ar) := by show SliceG _ _ _ _; rw [hwr27_8]; exact keep_cell (keep_cell (keep_cell SSwr27_7.out PN.out) PN.out) PN.out
              clear hwr27_8
              go_simp
              rw [← Hwr27_8.out]
              clear Hwr27_8
              refine hK.out _ _ ?_ (fun hH5 => ?_)
              · (try dsimp only)
                first | go_keep | (refine ⟨?_, ?_, ?_, ?_, ?_, ?_⟩ <;> assumption)
              clear hK K hH4
              try simp only [Act.put, List.setIfInBounds_toArray, List.set_cons_zero, List.set_cons_succ]
              refine wpAnyH_done (by kernel_rfl) ?_ _
              exact tail bwr27_6 _ _ _ _ _ _ _ _ _ _ _ _ _ _ _ _ _ _ _ _ _ _ _ _ _ _ _ _ _ _ _ _ _ _ _ _ _ _ _ _ _ _ _ _ _ _ _ _ _ _ _ _ _ _ _ _ _ _ _ _ _ _ _ _ _ _ _ _ _ _ _ _ _ wr27_8 Ewr27_8 Iwr27_8 SSwr27_8
      · skip
        obtain ⟨wr27_9, hwr27_9⟩ : ∃ W, W = World.alloc wr27_1 (.cells #[.slice none 0 0, .bool false, .int .i64 0] 33) := ⟨_, rfl⟩
        have Hwr27_9 : Hid (wr27_9 = World.alloc wr27_1 (.cells #[.slice none 0 0, .bool false, .int .i64 0] 33)) := hwr27_9
        have hbwr27_9 : Below (World.heap wr27_1).size wr27_1 wr27_9 := by rw [hwr27_9]; exact (Below.refl _ _).alloc (Nat.le_refl _) _
        have Ewr27_9 : Hid (Below w11.heap.size w11 wr27_9) := Ewr27_1.out.trans (hbwr27_9.mono Ewr27_1.out.size)
        have Qwr27_9_0 := ((bcell Ewr27_9.out).1 _ _ z0).trans q_0
        have Qwr27_9_1 := ((bcell Ewr27_9.out).1 _ _ z0).trans q_1
        have Qwr27_9_2 := ((bcell Ewr27_9.out).1 _ _ z0).trans q_2
        have Qwr27_9_3 := ((bcell Ewr27_9.out).1 _ _ z0).trans q_3
        have Qwr27_9_4 := ((bcell Ewr27_9.out).1 _ _ z0).trans q_4
        have Qwr27_9_5 := ((bcell Ewr27_9.out).1 _ _ z0).trans q_5
        have S1wr27_9 : Hid (SliceG wr27_9 (World.heap w11.drew).size v1 L) := S1wr27_1.out.below hbwr27_9
        have ywr27_9 := hbwr27_9.size
        obtain ⟨bwr27_9, hqwr27_9⟩ : ∃ b, b = (World.heap wr27_1).size := ⟨_, rfl⟩
        have Hqwr27_9 : Hid (bwr27_9 = (World.heap wr27_1).size) := hqwr27_9
        have Xwr27_9 : Hid (BoxG wr27_9 bwr27_9) := by show BoxG _ _; rw [hwr27_9, hqwr27_9]; exact boxG_made _ _
        have gwr27_9 : bwr27_9 < wr27_9.heap.size := by rw [hwr27_9, hqwr27_9]; simp
        have ewr27_9 : w11.heap.size ≤ bwr27_9 := by rw [hqwr27_9]; exact Ewr27_1.out.size
        clear hwr27_9 hbwr27_9 hqwr27_9
        go_simp
        rw [← Hwr27_9.out, ← Hqwr27_9.out]
        clear Hwr27_9 Hqwr27_9
        refine hK.out _ _ ?_ (fun hH2 => ?_)
        · (try dsimp only)
          first | go_keep | (refine ⟨?_, ?_, ?_, ?_, ?_, ?_⟩ <;> assumption)
        clear hK K hH1
        try simp only [Act.put, List.setIfInBounds_toArray, List.set_cons_zero, List.set_cons_succ]
        refine wpAnyH_ready (rs := [3]) (by kernel_rfl) (by simp) ?_
        refine AllReadyH.cons (o := { dst := some 72, op := Op.call { callee := Callee.value (Operand.func 24), args := #[Operand.tmp 71], argTypes := #[39] }, type := 42, pos := "exact.go:3027", after := #[{ on := 2, ground := Ground.data }, { on := 1, ground := Ground.chain }], guard := none }) rfl (fun K hK => ?_) AllReadyH.nil
        · skip
          go_simp
          refine (toAsk_any tp si tc sa re ye _).mono ?_
          rintro e wr27_10 ⟨rfl, hb'⟩
          have hbwr27_10 : Below (World.heap wr27_9).size wr27_9 wr27_10 := hb'
          have Ewr27_10 : Hid (Below w11.heap.size w11 wr27_10) := Ewr27_9.out.trans (hbwr27_10.mono Ewr27_9.out.size)
          have Qwr27_10_0 := ((bcell Ewr27_10.out).1 _ _ z0).trans q_0
          have Qwr27_10_1 := ((bcell Ewr27_10.out).1 _ _ z0).trans q_1
          have Qwr27_10_2 := ((bcell Ewr27_10.out).1 _ _ z0).trans q_2
          have Qwr27_10_3 := ((bcell Ewr27_10.out).1 _ _ z0).trans q_3
          have Qwr27_10_4 := ((bcell Ewr27_10.out).1 _ _ z0).trans q_4
          have Qwr27_10_5 := ((bcell Ewr27_10.out).1 _ _ z0).trans q_5
          have S1wr27_10 : Hid (SliceG wr27_10 (World.heap w11.drew).size v1 L) := S1wr27_9.out.below hbwr27_10
          have Xwr27_10 : Hid (BoxG wr27_10 bwr27_9) := Xwr27_9.out.below hbwr27_10
          have ywr27_10 := hbwr27_10.size
          clear hb' hbwr27_10
          try (go_wp2_with fail)
          refine hK.out _ _ ?_ (fun hH3 => ?_)
          · (try dsimp only)
            first | go_keep | (refine ⟨?_, ?_, ?_, ?_, ?_, ?_⟩ <;> assumption)
          clear hK K hH2
          try simp only [Act.put, List.setIfInBounds_toArray, List.set_cons_zero, List.set_cons_succ]
          refine wpAnyH_ready (rs := [5]) (by kernel_rfl) (by simp) ?_
          refine AllReadyH.cons (o := { dst := some 74, op := Op.call { callee := Callee.value (Operand.func 25), args := #[Operand.tmp 70, Operand.tmp 72, Operand.tmp 73], argTypes := #[24, 42, 2] }, type := 33, pos := "exact.go:3027", after := #[{ on := 1, ground := Ground.data }, { on := 3, ground := Ground.data }, { on := 4, ground := Ground.data }, { on := 3, ground := Ground.chain }], guard := none }) rfl (fun K hK => ?_) AllReadyH.nil
          · skip
            go_simp
            refine (KI.out _ _ _ (B11.out.trans (Ewr27_10.out.mono B11.out.size)) S1wr27_10.out).mono ?_
            rintro e wr27_11 ⟨vx', rfl, ⟨sx, rfl, sx1⟩, hb'⟩
            obtain ⟨psx, csx, hsx⟩ : ∃ p c, sx = .slice p Z.ar.length c := by obtain ⟨⟨p, cap, e, -⟩, -⟩ := sx1; exact ⟨p, cap, e⟩
            subst hsx
            have hbwr27_11 : Below (World.heap wr27_10).size wr27_10 wr27_11 := hb'
            have Ewr27_11 : Hid (Below w11.heap.size w11 wr27_11) := Ewr27_10.out.trans (hbwr27_11.mono Ewr27_10.out.size)
            have Qwr27_11_0 := ((bcell Ewr27_11.out).1 _ _ z0).trans q_0
            have Qwr27_11_1 := ((bcell Ewr27_11.out).1 _ _ z0).trans q_1
            have Qwr27_11_2 := ((bcell Ewr27_11.out).1 _ _ z0).trans q_2
            have Qwr27_11_3 := ((bcell Ewr27_11.out).1 _ _ z0).trans q_3
            have Qwr27_11_4 := ((bcell Ewr27_11.out).1 _ _ z0).trans q_4
            have Qwr27_11_5 := ((bcell Ewr27_11.out).1 _ _ z0).trans q_5
            have S1wr27_11 : Hid (SliceG wr27_11 (World.heap w11.drew).size v1 L) := S1wr27_10.out.below hbwr27_11
            have Xwr27_11 : Hid (BoxG wr27_11 bwr27_9) := Xwr27_10.out.below hbwr27_11
            have ywr27_11 := hbwr27_11.size
            have SSwr27_11 : Hid (SliceG wr27_11 w11.heap.size (.slice psx Z.ar.length csx) Z.ar) := sx1.mono Ewr27_10.out.size
            have PN : Hid (0 < Z.ar.length → ∃ g, (Value.slice psx Z.ar.length csx).ownBlock = some g ∧ g ≠ bwr27_9) := fun h => by
              obtain ⟨g, e, h1, -⟩ := sx1.1.place h
              exact ⟨g, e, by have := Xwr27_10.out.lt; omega⟩
            clear sx1 hb' hbwr27_11
            try (go_wp2_with fail)
            refine hK.out _ _ ?_ (fun hH4 => ?_)
            · (try dsimp only)
              first | go_keep | (refine ⟨?_, ?_, ?_, ?_, ?_, ?_⟩ <;> assumption)
            clear hK K hH3
            try simp only [Act.put, List.setIfInBounds_toArray, List.set_cons_zero, List.set_cons_succ]
            refine wpAnyH_ready (rs := [7]) (by kernel_rfl) (by simp) ?_
            refine AllReadyH.cons (o := { dst := none, op := Op.store 33 (Operand.tmp 14) (Operand.tmp 74), type := 0, pos := "exact.go:3027", after := #[{ on := 6, ground := Ground.data }, { on := 5, ground := Ground.data }, { on := 5, ground := Ground.chain }, { on := 0, ground := Ground.phase }, { on := 1, ground := Ground.phase }, { on := 2, ground := Ground.phase }, { on := 3, ground := Ground.phase }, { on := 4, ground := Ground.phase }, { on := 5, ground := Ground.phase }, { on := 6, ground := Ground.phase }], guard := none }) rfl (fun K hK => ?_) AllReadyH.nil
            · skip
              obtain ⟨x0, x1, x2, f0, f1, f2, hlt⟩ := Xwr27_11.out
              have hne : ¬ w.heap.size = bwr27_9 := by have := z0; have := ewr27_9; omega
              obtain ⟨wr27_12, hwr27_12⟩ : ∃ W, W = ((World.setCell wr27_11 ⟨bwr27_9, 0, none⟩ (.slice psx Z.ar.length csx)).setCell ⟨bwr27_9, 1, none⟩ (.bool Z.us)).setCell ⟨bwr27_9, 2, none⟩ (.int .i64 Z.co) := ⟨_, rfl⟩
              have Hwr27_12 : Hid (wr27_12 = ((World.setCell wr27_11 ⟨bwr27_9, 0, none⟩ (.slice psx Z.ar.length csx)).setCell ⟨bwr27_9, 1, none⟩ (.bool Z.us)).setCell ⟨bwr27_9, 2, none⟩ (.int .i64 Z.co)) := hwr27_12
              have Ewr27_12 : Hid (Below w11.heap.size w11 wr27_12) := by show Below _ _ _; rw [hwr27_12]; exact Ewr27_11.out.trans ((store3G_below (Below.refl bwr27_9 wr27_11)).mono ewr27_9)
              have Qwr27_12_0 := ((bcell Ewr27_12.out).1 _ _ z0).trans q_0
              have Qwr27_12_1 := ((bcell Ewr27_12.out).1 _ _ z0).trans q_1
              have Qwr27_12_2 := ((bcell Ewr27_12.out).1 _ _ z0).trans q_2
              have Qwr27_12_3 := ((bcell Ewr27_12.out).1 _ _ z0).trans q_3
              have Qwr27_12_4 := ((bcell Ewr27_12.out).1 _ _ z0).trans q_4
              have Qwr27_12_5 := ((bcell Ewr27_12.out).1 _ _ z0).trans q_5
              have Iwr27_12 : Hid (InBoxG wr27_12 bwr27_9 (.slice psx Z.ar.length csx) Z) := by show InBoxG _ _ _ _; rw [hwr27_12]; exact inBoxG_stored Xwr27_11.out
              have SSwr27_12 : Hid (SliceG wr27_12 w11.heap.size (.slice psx Z.ar.length csx) Z.ar) := by show SliceG _ _ _ _; rw [hwr27_12]; exact keep_cell (keep_cell (keep_cell SSwr27_11.out PN.out) PN.out) PN.out
              clear hwr27_12
              go_simp
              rw [← Hwr27_12.out]
              clear Hwr27_12
              refine hK.out _ _ ?_ (fun hH5 => ?_)
              · (try dsimp only)
                first | go_keep | (refine ⟨?_, ?_, ?_, ?_, ?_, ?_⟩ <;> assumption)
              clear hK K hH4
              try simp only [Act.put, List.setIfInBounds_toArray, List.set_cons_zero, List.set_cons_succ]
              refine wpAnyH_done (by kernel_rfl) ?_ _
              exact tail bwr27_9 _ _ _ _ _ _ _ _ _ _ _ _ _ _ _ _ _ _ _ _ _ _ _ _ _ _ _ _ _ _ _ _ _ _ _ _ _ _ _ _ _ _ _ _ _ _ _ _ _ _ _ _ _ _ _ _ _ _ _ _ _ _ _ _ _ _ _ _ _ _ _ _ _ wr27_12 Ewr27_12 Iwr27_12 SSwr27_12
    · skip
      obtain ⟨wr27_13, hwr27_13⟩ : ∃ W, W = (World.alloc w11 (.cells #[.slice none 0 0, .bool false, .int .i64 0] 33)).drew := ⟨_, rfl⟩
      have Hwr27_13 : Hid (wr27_13 = (World.alloc w11 (.cells #[.slice none 0 0, .bool false, .int .i64 0] 33)).drew) := hwr27_13
      have Ewr27_13 : Hid (Below w11.heap.size w11 wr27_13) := by show Below _ _ _; rw [hwr27_13]; exact ((Below.refl _ _).alloc (Nat.le_refl _) _).drew
      have Qwr27_13_0 := ((bcell Ewr27_13.out).1 _ _ z0).trans q_0
      have Qwr27_13_1 := ((bcell Ewr27_13.out).1 _ _ z0).trans q_1
      have Qwr27_13_2 := ((bcell Ewr27_13.out).1 _ _ z0).trans q_2
      have Qwr27_13_3 := ((bcell Ewr27_13.out).1 _ _ z0).trans q_3
      have Qwr27_13_4 := ((bcell Ewr27_13.out).1 _ _ z0).trans q_4
      have Qwr27_13_5 := ((bcell Ewr27_13.out).1 _ _ z0).trans q_5
      obtain ⟨bwr27_13, hqwr27_13⟩ : ∃ b, b = w11.heap.size := ⟨_, rfl⟩
      have Hqwr27_13 : Hid (bwr27_13 = w11.heap.size) := hqwr27_13
      have Xwr27_13 : Hid (BoxG wr27_13 bwr27_13) := by show BoxG _ _; rw [hwr27_13, hqwr27_13]; exact (boxG_made _ _).below (Below.refl _ _).drew
      have ewr27_13 : w11.heap.size ≤ bwr27_13 := by rw [hqwr27_13]; exact Nat.le_refl _
      clear hwr27_13 hqwr27_13
      go_simp
      rw [← Hwr27_13.out, ← Hqwr27_13.out]
      clear Hwr27_13 Hqwr27_13
      refine hK.out _ _ ?_ (fun hH1 => ?_)
      · (try dsimp only)
        first | go_keep | (refine ⟨?_, ?_, ?_, ?_, ?_, ?_⟩ <;> assumption)
      clear hK K hH0
      try simp only [Act.put, List.setIfInBounds_toArray, List.set_cons_zero, List.set_cons_succ]
      refine wpAnyH_ready (rs := [1]) (by kernel_rfl) (by simp) ?_
      refine AllReadyH.cons (o := { dst := some 70, op := Op.call { callee := Callee.value (Operand.func 10), args := #[Operand.tmp 69], argTypes := #[22] }, type := 24, pos := "exact.go:3027", after := #[{ on := 0, ground := Ground.data }], guard := none }) rfl (fun K hK => ?_) AllReadyH.nil
      · skip
        go_simp
        refine (KT.out _ (B11.out.trans (Ewr27_13.out.mono B11.out.size))).mono ?_
        rintro e wr27_14 ⟨v1, rfl, s1, hb'⟩
        have hbwr27_14 : Below (World.heap wr27_13).size wr27_13 wr27_14 := hb'
        have Ewr27_14 : Hid (Below w11.heap.size w11 wr27_14) := Ewr27_13.out.trans (hbwr27_14.mono Ewr27_13.out.size)
        have Qwr27_14_0 := ((bcell Ewr27_14.out).1 _ _ z0).trans q_0
        have Qwr27_14_1 := ((bcell Ewr27_14.out).1 _ _ z0).trans q_1
        have Qwr27_14_2 := ((bcell Ewr27_14.out).1 _ _ z0).trans q_2
        have Qwr27_14_3 := ((bcell Ewr27_14.out).1 _ _ z0).trans q_3
        have Qwr27_14_4 := ((bcell Ewr27_14.out).1 _ _ z0).trans q_4
        have Qwr27_14_5 := ((bcell Ewr27_14.out).1 _ _ z0).trans q_5
        have Xwr27_14 : Hid (BoxG wr27_14 bwr27_13) := Xwr27_13.out.below hbwr27_14
        have ywr27_14 := hbwr27_14.size
        have S1wr27_14 : Hid (SliceG wr27_14 (World.heap wr27_13).size v1 L) := s1
        clear s1 hb' hbwr27_14
        try (go_wp2_with fail)
        refine hK.out _ _ ?_ (fun hH2 => ?_)
        · (try dsimp only)
          first | go_keep | (refine ⟨?_, ?_, ?_, ?_, ?_, ?_⟩ <;> assumption)
        clear hK K hH1
        try simp only [Act.put, List.setIfInBounds_toArray, List.set_cons_zero, List.set_cons_succ]
        refine wpAnyH_ready (rs := [3]) (by kernel_rfl) (by simp) ?_
        refine AllReadyH.cons (o := { dst := some 72, op := Op.call { callee := Callee.value (Operand.func 24), args := #[Operand.tmp 71], argTypes := #[39] }, type := 42, pos := "exact.go:3027", after := #[{ on := 2, ground := Ground.data }, { on := 1, ground := Ground.chain }], guard := none }) rfl (fun K hK => ?_) AllReadyH.nil
        · skip
          go_simp
          refine (toAsk_any tp si tc sa re ye _).mono ?_
          rintro e wr27_15 ⟨rfl, hb'⟩
          have hbwr27_15 : Below (World.heap wr27_14).size wr27_14 wr27_15 := hb'
          have Ewr27_15 : Hid (Below w11.heap.size w11 wr27_15) := Ewr27_14.out.trans (hbwr27_15.mono Ewr27_14.out.size)
          have Qwr27_15_0 := ((bcell Ewr27_15.out).1 _ _ z0).trans q_0
          have Qwr27_15_1 := ((bcell Ewr27_15.out).1 _ _ z0).trans q_1
          have Qwr27_15_2 := ((bcell Ewr27_15.out).1 _ _ z0).trans q_2
          have Qwr27_15_3 := ((bcell Ewr27_15.out).1 _ _ z0).trans q_3
          have Qwr27_15_4 := ((bcell Ewr27_15.out).1 _ _ z0).trans q_4
          have Qwr27_15_5 := ((bcell Ewr27_15.out).1 _ _ z0).trans q_5
          have S1wr27_15 : Hid (SliceG wr27_15 (World.heap wr27_13).size v1 L) := S1wr27_14.out.below hbwr27_15
          have Xwr27_15 : Hid (BoxG wr27_15 bwr27_13) := Xwr27_14.out.below hbwr27_15
          have ywr27_15 := hbwr27_15.size
          clear hb' hbwr27_15
          try (go_wp2_with fail)
          refine hK.out _ _ ?_ (fun hH3 => ?_)
          · (try dsimp only)
            first | go_keep | (refine ⟨?_, ?_, ?_, ?_, ?_, ?_⟩ <;> assumption)
          clear hK K hH2
          try simp only [Act.put, List.setIfInBounds_toArray, List.set_cons_zero, List.set_cons_succ]
          refine wpAnyH_ready (rs := [5]) (by kernel_rfl) (by simp) ?_
          refine AllReadyH.cons (o := { dst := some 74, op := Op.call { callee := Callee.value (Operand.func 25), args := #[Operand.tmp 70, Operand.tmp 72, Operand.tmp 73], argTypes := #[24, 42, 2] }, type := 33, pos := "exact.go:3027", after := #[{ on := 1, ground := Ground.data }, { on := 3, ground := Ground.data }, { on := 4, ground := Ground.data }, { on := 3, ground := Ground.chain }], guard := none }) rfl (fun K hK => ?_) AllReadyH.nil
          · skip
            go_simp
            refine (KI.out _ _ _ (B11.out.trans (Ewr27_15.out.mono B11.out.size)) S1wr27_15.out).mono ?_
            rintro e wr27_16 ⟨vx', rfl, ⟨sx, rfl, sx1⟩, hb'⟩
            obtain ⟨psx, csx, hsx⟩ : ∃ p c, sx = .slice p Z.ar.length c := by obtain ⟨⟨p, cap, e, -⟩, -⟩ := sx1; exact ⟨p, cap, e⟩
            subst hsx
            have hbwr27_16 : Below (World.heap wr27_15).size wr27_15 wr27_16 := hb'
            have Ewr27_16 : Hid (Below w11.heap.size w11 wr27_16) := Ewr27_15.out.trans (hbwr27_16.mono Ewr27_15.out.size)
            have Qwr27_16_0 := ((bcell Ewr27_16.out).1 _ _ z0).trans q_0
            have Qwr27_16_1 := ((bcell Ewr27_16.out).1 _ _ z0).trans q_1
            have Qwr27_16_2 := ((bcell Ewr27_16.out).1 _ _ z0).trans q_2
            have Qwr27_16_3 := ((bcell Ewr27_16.out).1 _ _ z0).trans q_3
            have Qwr27_16_4 := ((bcell Ewr27_16.out).1 _ _ z0).trans q_4
            have Qwr27_16_5 := ((bcell Ewr27_16.out).1 _ _ z0).trans q_5
            have S1wr27_16 : Hid (SliceG wr27_16 (World.heap wr27_13).size v1 L) := S1wr27_15.out.below hbwr27_16
            have Xwr27_16 : Hid (BoxG wr27_16 bwr27_13) := Xwr27_15.out.below hbwr27_16
            have ywr27_16 := hbwr27_16.size
            have SSwr27_16 : Hid (SliceG wr27_16 w11.heap.size (.slice psx Z.ar.length csx) Z.ar) := sx1.mono Ewr27_15.out.size
            have PN : Hid (0 < Z.ar.length → ∃ g, (Value.slice psx Z.ar.length csx).ownBlock = some g ∧ g ≠ bwr27_13) := fun h => by
              obtain ⟨g, e, h1, -⟩ := sx1.1.place h
              exact ⟨g, e, by have := Xwr27_15.out.lt; omega⟩
            clear sx1 hb' hbwr27_16
            try (go_wp2_with fail)
            refine hK.out _ _ ?_ (fun hH4 => ?_)
            · (try dsimp only)
              first | go_keep | (refine ⟨?_, ?_, ?_, ?_, ?_, ?_⟩ <;> assumption)
            clear hK K hH3
            try simp only [Act.put, List.setIfInBounds_toArray, List.set_cons_zero, List.set_cons_succ]
            refine wpAnyH_ready (rs := [7]) (by kernel_rfl) (by simp) ?_
            refine AllReadyH.cons (o := { dst := none, op := Op.store 33 (Operand.tmp 14) (Operand.tmp 74), type := 0, pos := "exact.go:3027", after := #[{ on := 6, ground := Ground.data }, { on := 5, ground := Ground.data }, { on := 5, ground := Ground.chain }, { on := 0, ground := Ground.phase }, { on := 1, ground := Ground.phase }, { on := 2, ground := Ground.phase }, { on := 3, ground := Ground.phase }, { on := 4, ground := Ground.phase }, { on := 5, ground := Ground.phase }, { on := 6, ground := Ground.phase }], guard := none }) rfl (fun K hK => ?_) AllReadyH.nil
            · skip
              obtain ⟨x0, x1, x2, f0, f1, f2, hlt⟩ := Xwr27_16.out
              have hne : ¬ w.heap.size = bwr27_13 := by have := z0; have := ewr27_13; omega
              obtain ⟨wr27_17, hwr27_17⟩ : ∃ W, W = ((World.setCell wr27_16 ⟨bwr27_13, 0, none⟩ (.slice psx Z.ar.length csx)).setCell ⟨bwr27_13, 1, none⟩ (.bool Z.us)).setCell ⟨bwr27_13, 2, none⟩ (.int .i64 Z.co) := ⟨_, rfl⟩
              have Hwr27_17 : Hid (wr27_17 = ((World.setCell wr27_16 ⟨bwr27_13, 0, none⟩ (.slice psx Z.ar.length csx)).setCell ⟨bwr27_13, 1, none⟩ (.bool Z.us)).setCell ⟨bwr27_13, 2, none⟩ (.int .i64 Z.co)) := hwr27_17
              have Ewr27_17 : Hid (Below w11.heap.size w11 wr27_17) := by show Below _ _ _; rw [hwr27_17]; exact Ewr27_16.out.trans ((store3G_below (Below.refl bwr27_13 wr27_16)).mono ewr27_13)
              have Qwr27_17_0 := ((bcell Ewr27_17.out).1 _ _ z0).trans q_0
              have Qwr27_17_1 := ((bcell Ewr27_17.out).1 _ _ z0).trans q_1
              have Qwr27_17_2 := ((bcell Ewr27_17.out).1 _ _ z0).trans q_2
              have Qwr27_17_3 := ((bcell Ewr27_17.out).1 _ _ z0).trans q_3
              have Qwr27_17_4 := ((bcell Ewr27_17.out).1 _ _ z0).trans q_4
              have Qwr27_17_5 := ((bcell Ewr27_17.out).1 _ _ z0).trans q_5
              have Iwr27_17 : Hid (InBoxG wr27_17 bwr27_13 (.slice psx Z.ar.length csx) Z) := by show InBoxG _ _ _ _; rw [hwr27_17]; exact inBoxG_stored Xwr27_16.out
              have SSwr27_17 : Hid (SliceG wr27_17 w11.heap.size (.slice psx Z.ar.length csx) Z.ar) := by show SliceG _ _ _ _; rw [hwr27_17]; exact keep_cell (keep_cell (keep_cell SSwr27_16.out PN.out) PN.out) PN.out
              clear hwr27_17
              go_simp
              rw [← Hwr27_17.out]
              clear Hwr27_17
              refine hK.out _ _ ?_ (fun hH5 => ?_)
              · (try dsimp only)
                first | go_keep | (refine ⟨?_, ?_, ?_, ?_, ?_, ?_⟩ <;> assumption)
              clear hK K hH4
              try simp only [Act.put, List.setIfInBounds_toArray, List.set_cons_zero, List.set_cons_succ]
              refine wpAnyH_done (by kernel_rfl) ?_ _
              exact tail bwr27_13 _ _ _ _ _ _ _ _ _ _ _ _ _ _ _ _ _ _ _ _ _ _ _ _ _ _ _ _ _ _ _ _ _ _ _ _ _ _ _ _ _ _ _ _ _ _ _ _ _ _ _ _ _ _ _ _ _ _ _ _ _ _ _ _ _ _ _ _ _ _ _ _ _ wr27_17 Ewr27_17 Iwr27_17 SSwr27_17
  clear hK
  refine wp_region_held_drew (S := (fun w' => w'.cell? ⟨w.heap.size, 0, none⟩ = some (.string tp) ∧ w'.cell? ⟨w.heap.size, 1, none⟩ = some (.string si) ∧ w'.cell? ⟨w.heap.size, 2, none⟩ = some (.bool tc) ∧ w'.cell? ⟨w.heap.size, 3, none⟩ = some (.bool sa) ∧ w'.cell? ⟨w.heap.size, 4, none⟩ = some (.bool re) ∧ w'.cell? ⟨w.heap.size, 5, none⟩ = some (.bool ye))) (by kernel_rfl) ?_ (fun hH0 => ?_)
  · (try dsimp only)
    first | go_keep | (refine ⟨?_, ?_, ?_, ?_, ?_, ?_⟩ <;> assumption)
  have Er8d : Hid (Below w0.heap.size w0 w0.drew) := (Below.refl _ _).drew
  refine wpAnyH_take (i := 0) (oi := { dst := some 25, op := Op.move (Operand.tmp 0), type := 22, pos := "exact.go:3003", after := #[], guard := none }) (v := ?vr81) rfl (by kernel_rfl) (by kernel_rfl) (by kernel_rfl) (fun _ _ _ h => h) (Or.inl ⟨by rfl, ?hyr81⟩) (by assumption) ?restr81
  case hyr81 =>
    intro w hSw
    (try dsimp only at hSw)
    go_simp
    try with_reducible rfl
  try simp only [Act.put, List.setIfInBounds_toArray, List.set_cons_zero, List.set_cons_succ]
  refine wpAnyH_take (i := 2) (oi := { dst := some 27, op := Op.load 39 (Operand.tmp 4), type := 39, pos := "exact.go:3003", after := #[], guard := none }) (v := ?vr82) rfl (by kernel_rfl) (by kernel_rfl) (by kernel_rfl) (fun _ _ _ h => h) (Or.inl ⟨by rfl, ?hyr82⟩) (by assumption) ?restr82
  case hyr82 =>
    intro w hSw
    (try dsimp only at hSw)
    go_simp
    try with_reducible rfl
  try simp only [Act.put, List.setIfInBounds_toArray, List.set_cons_zero, List.set_cons_succ]
  refine wpAnyH_take (i := 4) (oi := { dst := some 29, op := Op.move (Operand.tmp 2), type := 2, pos := "exact.go:3003", after := #[], guard := none }) (v := ?vr83) rfl (by kernel_rfl) (by kernel_rfl) (by kernel_rfl) (fun _ _ _ h => h) (Or.inl ⟨by rfl, ?hyr83⟩) (by assumption) ?restr83
  case hyr83 =>
    intro w hSw
    (try dsimp only at hSw)
    go_simp
    try with_reducible rfl
  try simp only [Act.put, List.setIfInBounds_toArray, List.set_cons_zero, List.set_cons_succ]
  refine wpAnyH_ready (rs := [1, 6]) (by kernel_rfl) (by simp) ?_
  refine AllReadyH.cons (o := { dst := some 26, op := Op.call { callee := Callee.value (Operand.func 10), args := #[Operand.tmp 25], argTypes := #[22] }, type := 24, pos := "exact.go:3003", after := #[{ on := 0, ground := Ground.data }], guard := none }) rfl (fun K hK => ?_) (AllReadyH.cons (o := { dst := some 8, op := Op.alloc 33, type := 0, pos := "exact.go:3003", after := #[], guard := none }) rfl (fun K hK => ?_) AllReadyH.nil)
  · skip
    go_simp
    refine (KT.out _ (B0.out.trans (Er8d.out.mono B0.out.size))).mono ?_
    rintro e wr8_1 ⟨v1, rfl, s1, hb'⟩
    have hbwr8_1 : Below (World.heap w0.drew).size w0.drew wr8_1 := hb'
    have Ewr8_1 : Hid (Below w0.heap.size w0 wr8_1) := Er8d.out.trans (hbwr8_1.mono Er8d.out.size)
    have Qwr8_1_0 := ((bcell Ewr8_1.out).1 _ _ z0).trans q_0
    have Qwr8_1_1 := ((bcell Ewr8_1.out).1 _ _ z0).trans q_1
    have Qwr8_1_2 := ((bcell Ewr8_1.out).1 _ _ z0).trans q_2
    have Qwr8_1_3 := ((bcell Ewr8_1.out).1 _ _ z0).trans q_3
    have Qwr8_1_4 := ((bcell Ewr8_1.out).1 _ _ z0).trans q_4
    have Qwr8_1_5 := ((bcell Ewr8_1.out).1 _ _ z0).trans q_5
    have ywr8_1 := hbwr8_1.size
    have S1wr8_1 : Hid (SliceG wr8_1 (World.heap w0.drew).size v1 L) := s1
    clear s1 hb' hbwr8_1
    try (go_wp2_with fail)
    refine hK.out _ _ ?_ (fun hH1 => ?_)
    · (try dsimp only)
      first | go_keep | (refine ⟨?_, ?_, ?_, ?_, ?_, ?_⟩ <;> assumption)
    clear hK K hH0
    try simp only [Act.put, List.setIfInBounds_toArray, List.set_cons_zero, List.set_cons_succ]
    refine wpAnyH_ready (rs := [3, 6]) (by kernel_rfl) (by simp) ?_
    refine AllReadyH.cons (o := { dst := some 28, op := Op.call { callee := Callee.value (Operand.func 24), args := #[Operand.tmp 27], argTypes := #[39] }, type := 42, pos := "exact.go:3003", after := #[{ on := 2, ground := Ground.data }, { on := 1, ground := Ground.chain }], guard := none }) rfl (fun K hK => ?_) (AllReadyH.cons (o := { dst := some 8, op := Op.alloc 33, type := 0, pos := "exact.go:3003", after := #[], guard := none }) rfl (fun K hK => ?_) AllReadyH.nil)
    · skip
      go_simp
      refine (toAsk_any tp si tc sa re ye _).mono ?_
      rintro e wr8_2 ⟨rfl, hb'⟩
      have hbwr8_2 : Below (World.heap wr8_1).size wr8_1 wr8_2 := hb'
      have Ewr8_2 : Hid (Below w0.heap.size w0 wr8_2) := Ewr8_1.out.trans (hbwr8_2.mono Ewr8_1.out.size)
      have Qwr8_2_0 := ((bcell Ewr8_2.out).1 _ _ z0).trans q_0
      have Qwr8_2_1 := ((bcell Ewr8_2.out).1 _ _ z0).trans q_1
      have Qwr8_2_2 := ((bcell Ewr8_2.out).1 _ _ z0).trans q_2
      have Qwr8_2_3 := ((bcell Ewr8_2.out).1 _ _ z0).trans q_3
      have Qwr8_2_4 := ((bcell Ewr8_2.out).1 _ _ z0).trans q_4
      have Qwr8_2_5 := ((bcell Ewr8_2.out).1 _ _ z0).trans q_5
      have S1wr8_2 : Hid (SliceG wr8_2 (World.heap w0.drew).size v1 L) := S1wr8_1.out.below hbwr8_2
      have ywr8_2 := hbwr8_2.size
      clear hb' hbwr8_2
      try (go_wp2_with fail)
      refine hK.out _ _ ?_ (fun hH2 => ?_)
      · (try dsimp only)
        first | go_keep | (refine ⟨?_, ?_, ?_, ?_, ?_, ?_⟩ <;> assumption)
      clear hK K hH1
      try simp only [Act.put, List.setIfInBounds_toArray, List.set_cons_zero, List.set_cons_succ]
      refine wpAnyH_ready (rs := [5, 6]) (by kernel_rfl) (by simp) ?_
      refine AllReadyH.cons (o := { dst := some 30, op := Op.call { callee := Callee.value (Operand.func 23), args := #[Operand.tmp 26, Operand.tmp 28, Operand.tmp 29], argTypes := #[24, 42, 2] }, type := 33, pos := "exact.go:3003", after := #[{ on := 1, ground := Ground.data }, { on := 3, ground := Ground.data }, { on := 4, ground := Ground.data }, { on := 3, ground := Ground.chain }], guard := none }) rfl (fun K hK => ?_) (AllReadyH.cons (o := { dst := some 8, op := Op.alloc 33, type := 0, pos := "exact.go:3003", after := #[], guard := none }) rfl (fun K hK => ?_) AllReadyH.nil)
      · skip
        go_simp
        refine (KS.out _ _ _ S1wr8_2.out).mono ?_
        rintro e wr8_3 ⟨vx', rfl, ⟨sx, rfl, sx1⟩, hb'⟩
        obtain ⟨psx, csx, hsx⟩ : ∃ p c, sx = .slice p Z.ar.length c := by obtain ⟨⟨p, cap, e, -⟩, -⟩ := sx1; exact ⟨p, cap, e⟩
        subst hsx
        have hbwr8_3 : Below (World.heap wr8_2).size wr8_2 wr8_3 := hb'
        have Ewr8_3 : Hid (Below w0.heap.size w0 wr8_3) := Ewr8_2.out.trans (hbwr8_3.mono Ewr8_2.out.size)
        have Qwr8_3_0 := ((bcell Ewr8_3.out).1 _ _ z0).trans q_0
        have Qwr8_3_1 := ((bcell Ewr8_3.out).1 _ _ z0).trans q_1
        have Qwr8_3_2 := ((bcell Ewr8_3.out).1 _ _ z0).trans q_2
        have Qwr8_3_3 := ((bcell Ewr8_3.out).1 _ _ z0).trans q_3
        have Qwr8_3_4 := ((bcell Ewr8_3.out).1 _ _ z0).trans q_4
        have Qwr8_3_5 := ((bcell Ewr8_3.out).1 _ _ z0).trans q_5
        have S1wr8_3 : Hid (SliceG wr8_3 (World.heap w0.drew).size v1 L) := S1wr8_2.out.below hbwr8_3
        have ywr8_3 := hbwr8_3.size
        have SSwr8_3 : Hid (SliceG wr8_3 w0.heap.size (.slice psx Z.ar.length csx) Z.ar) := sx1.mono Ewr8_2.out.size
        clear sx1 hb' hbwr8_3
        try (go_wp2_with fail)
        refine hK.out _ _ ?_ (fun hH3 => ?_)
        · (try dsimp only)
          first | go_keep | (refine ⟨?_, ?_, ?_, ?_, ?_, ?_⟩ <;> assumption)
        clear hK K hH2
        try simp only [Act.put, List.setIfInBounds_toArray, List.set_cons_zero, List.set_cons_succ]
        refine wpAnyH_ready (rs := [6]) (by kernel_rfl) (by simp) ?_
        refine AllReadyH.cons (o := { dst := some 8, op := Op.alloc 33, type := 0, pos := "exact.go:3003", after := #[], guard := none }) rfl (fun K hK => ?_) AllReadyH.nil
        · skip
          obtain ⟨wr8_4, hwr8_4⟩ : ∃ W, W = World.alloc wr8_3 (.cells #[.slice none 0 0, .bool false, .int .i64 0] 33) := ⟨_, rfl⟩
          have Hwr8_4 : Hid (wr8_4 = World.alloc wr8_3 (.cells #[.slice none 0 0, .bool false, .int .i64 0] 33)) := hwr8_4
          have hbwr8_4 : Below (World.heap wr8_3).size wr8_3 wr8_4 := by rw [hwr8_4]; exact (Below.refl _ _).alloc (Nat.le_refl _) _
          have Ewr8_4 : Hid (Below w0.heap.size w0 wr8_4) := Ewr8_3.out.trans (hbwr8_4.mono Ewr8_3.out.size)
          have Qwr8_4_0 := ((bcell Ewr8_4.out).1 _ _ z0).trans q_0
          have Qwr8_4_1 := ((bcell Ewr8_4.out).1 _ _ z0).trans q_1
          have Qwr8_4_2 := ((bcell Ewr8_4.out).1 _ _ z0).trans q_2
          have Qwr8_4_3 := ((bcell Ewr8_4.out).1 _ _ z0).trans q_3
          have Qwr8_4_4 := ((bcell Ewr8_4.out).1 _ _ z0).trans q_4
          have Qwr8_4_5 := ((bcell Ewr8_4.out).1 _ _ z0).trans q_5
          have S1wr8_4 : Hid (SliceG wr8_4 (World.heap w0.drew).size v1 L) := S1wr8_3.out.below hbwr8_4
          have SSwr8_4 : Hid (SliceG wr8_4 w0.heap.size (.slice psx Z.ar.length csx) Z.ar) := SSwr8_3.out.below hbwr8_4
          have ywr8_4 := hbwr8_4.size
          obtain ⟨bwr8_4, hqwr8_4⟩ : ∃ b, b = (World.heap wr8_3).size := ⟨_, rfl⟩
          have Hqwr8_4 : Hid (bwr8_4 = (World.heap wr8_3).size) := hqwr8_4
          have Xwr8_4 : Hid (BoxG wr8_4 bwr8_4) := by show BoxG _ _; rw [hwr8_4, hqwr8_4]; exact boxG_made _ _
          have gwr8_4 : bwr8_4 < wr8_4.heap.size := by rw [hwr8_4, hqwr8_4]; simp
          have ewr8_4 : w0.heap.size ≤ bwr8_4 := by rw [hqwr8_4]; exact Ewr8_3.out.size
          have PN : Hid (0 < Z.ar.length → ∃ g, (Value.slice psx Z.ar.length csx).ownBlock = some g ∧ g ≠ bwr8_4) := fun h => by
            obtain ⟨g, e, -, h2⟩ := SSwr8_3.out.1.place h
            exact ⟨g, e, by rw [hqwr8_4]; exact Nat.ne_of_lt h2⟩
          clear hwr8_4 hbwr8_4 hqwr8_4
          go_simp
          rw [← Hwr8_4.out, ← Hqwr8_4.out]
          clear Hwr8_4 Hqwr8_4
          refine hK.out _ _ ?_ (fun hH4 => ?_)
          · (try dsimp only)
            first | go_keep | (refine ⟨?_, ?_, ?_, ?_, ?_, ?_⟩ <;> assumption)
          clear hK K hH3
          try simp only [Act.put, List.setIfInBounds_toArray, List.set_cons_zero, List.set_cons_succ]
          refine wpAnyH_ready (rs := [7]) (by kernel_rfl) (by simp) ?_
          refine AllReadyH.cons (o := { dst := none, op := Op.store 33 (Operand.tmp 8) (Operand.tmp 30), type := 0, pos := "exact.go:3003", after := #[{ on := 6, ground := Ground.data }, { on := 5, ground := Ground.data }, { on := 5, ground := Ground.chain }, { on := 0, ground := Ground.phase }, { on := 1, ground := Ground.phase }, { on := 2, ground := Ground.phase }, { on := 3, ground := Ground.phase }, { on := 4, ground := Ground.phase }, { on := 5, ground := Ground.phase }, { on := 6, ground := Ground.phase }], guard := none }) rfl (fun K hK => ?_) AllReadyH.nil
          · skip
            obtain ⟨x0, x1, x2, f0, f1, f2, hlt⟩ := Xwr8_4.out
            have hne : ¬ w.heap.size = bwr8_4 := by have := z0; have := ewr8_4; omega
            obtain ⟨wr8_5, hwr8_5⟩ : ∃ W, W = ((World.setCell wr8_4 ⟨bwr8_4, 0, none⟩ (.slice psx Z.ar.length csx)).setCell ⟨bwr8_4, 1, none⟩ (.bool Z.us)).setCell ⟨bwr8_4, 2, none⟩ (.int .i64 Z.co) := ⟨_, rfl⟩
            have Hwr8_5 : Hid (wr8_5 = ((World.setCell wr8_4 ⟨bwr8_4, 0, none⟩ (.slice psx Z.ar.length csx)).setCell ⟨bwr8_4, 1, none⟩ (.bool Z.us)).setCell ⟨bwr8_4, 2, none⟩ (.int .i64 Z.co)) := hwr8_5
            have Ewr8_5 : Hid (Below w0.heap.size w0 wr8_5) := by show Below _ _ _; rw [hwr8_5]; exact Ewr8_4.out.trans ((store3G_below (Below.refl bwr8_4 wr8_4)).mono ewr8_4)
            have Qwr8_5_0 := ((bcell Ewr8_5.out).1 _ _ z0).trans q_0
            have Qwr8_5_1 := ((bcell Ewr8_5.out).1 _ _ z0).trans q_1
            have Qwr8_5_2 := ((bcell Ewr8_5.out).1 _ _ z0).trans q_2
            have Qwr8_5_3 := ((bcell Ewr8_5.out).1 _ _ z0).trans q_3
            have Qwr8_5_4 := ((bcell Ewr8_5.out).1 _ _ z0).trans q_4
            have Qwr8_5_5 := ((bcell Ewr8_5.out).1 _ _ z0).trans q_5
            have Iwr8_5 : Hid (InBoxG wr8_5 bwr8_4 (.slice psx Z.ar.length csx) Z) := by show InBoxG _ _ _ _; rw [hwr8_5]; exact inBoxG_stored Xwr8_4.out
            have SSwr8_5 : Hid (SliceG wr8_5 w0.heap.size (.slice psx Z.ar.length csx) Z.ar) := by show SliceG _ _ _ _; rw [hwr8_5]; exact keep_cell (keep_cell (keep_cell SSwr8_4.out PN.out) PN.out) PN.out
            clear hwr8_5
            go_simp
            rw [← Hwr8_5.out]
            clear Hwr8_5
            refine hK.out _ _ ?_ (fun hH5 => ?_)
            · (try dsimp only)
              first | go_keep | (refine ⟨?_, ?_, ?_, ?_, ?_, ?_⟩ <;> assumption)
            clear hK K hH4
            try simp only [Act.put, List.setIfInBounds_toArray, List.set_cons_zero, List.set_cons_succ]
            refine wpAnyH_done (by kernel_rfl) ?_ _
            exact tail bwr8_4 _ _ _ wr8_5 Ewr8_5 Iwr8_5 SSwr8_5
      · skip
        obtain ⟨wr8_6, hwr8_6⟩ : ∃ W, W = World.alloc wr8_2 (.cells #[.slice none 0 0, .bool false, .int .i64 0] 33) := ⟨_, rfl⟩
        have Hwr8_6 : Hid (wr8_6 = World.alloc wr8_2 (.cells #[.slice none 0 0, .bool false, .int .i64 0] 33)) := hwr8_6
        have hbwr8_6 : Below (World.heap wr8_2).size wr8_2 wr8_6 := by rw [hwr8_6]; exact (Below.refl _ _).alloc (Nat.le_refl _) _
        have Ewr8_6 : Hid (Below w0.heap.size w0 wr8_6) := Ewr8_2.out.trans (hbwr8_6.mono Ewr8_2.out.size)
        have Qwr8_6_0 := ((bcell Ewr8_6.out).1 _ _ z0).trans q_0
        have Qwr8_6_1 := ((bcell Ewr8_6.out).1 _ _ z0).trans q_1
        have Qwr8_6_2 := ((bcell Ewr8_6.out).1 _ _ z0).trans q_2
        have Qwr8_6_3 := ((bcell Ewr8_6.out).1 _ _ z0).trans q_3
        have Qwr8_6_4 := ((bcell Ewr8_6.out).1 _ _ z0).trans q_4
        have Qwr8_6_5 := ((bcell Ewr8_6.out).1 _ _ z0).trans q_5
        have S1wr8_6 : Hid (SliceG wr8_6 (World.heap w0.drew).size v1 L) := S1wr8_2.out.below hbwr8_6
        have ywr8_6 := hbwr8_6.size
        obtain ⟨bwr8_6, hqwr8_6⟩ : ∃ b, b = (World.heap wr8_2).size := ⟨_, rfl⟩
        have Hqwr8_6 : Hid (bwr8_6 = (World.heap wr8_2).size) := hqwr8_6
        have Xwr8_6 : Hid (BoxG wr8_6 bwr8_6) := by show BoxG _ _; rw [hwr8_6, hqwr8_6]; exact boxG_made _ _
        have gwr8_6 : bwr8_6 < wr8_6.heap.size := by rw [hwr8_6, hqwr8_6]; simp
        have ewr8_6 : w0.heap.size ≤ bwr8_6 := by rw [hqwr8_6]; exact Ewr8_2.out.size
        clear hwr8_6 hbwr8_6 hqwr8_6
        go_simp
        rw [← Hwr8_6.out, ← Hqwr8_6.out]
        clear Hwr8_6 Hqwr8_6
        refine hK.out _ _ ?_ (fun hH3 => ?_)
        · (try dsimp only)
          first | go_keep | (refine ⟨?_, ?_, ?_, ?_, ?_, ?_⟩ <;> assumption)
        clear hK K hH2
        try simp only [Act.put, List.setIfInBounds_toArray, List.set_cons_zero, List.set_cons_succ]
        refine wpAnyH_ready (rs := [5]) (by kernel_rfl) (by simp) ?_
        refine AllReadyH.cons (o := { dst := some 30, op := Op.call { callee := Callee.value (Operand.func 23), args := #[Operand.tmp 26, Operand.tmp 28, Operand.tmp 29], argTypes := #[24, 42, 2] }, type := 33, pos := "exact.go:3003", after := #[{ on := 1, ground := Ground.data }, { on := 3, ground := Ground.data }, { on := 4, ground := Ground.data }, { on := 3, ground := Ground.chain }], guard := none }) rfl (fun K hK => ?_) AllReadyH.nil
        · skip
          go_simp
          refine (KS.out _ _ _ S1wr8_6.out).mono ?_
          rintro e wr8_7 ⟨vx', rfl, ⟨sx, rfl, sx1⟩, hb'⟩
          obtain ⟨psx, csx, hsx⟩ : ∃ p c, sx = .slice p Z.ar.length c := by obtain ⟨⟨p, cap, e, -⟩, -⟩ := sx1; exact ⟨p, cap, e⟩
          subst hsx
          have hbwr8_7 : Below (World.heap wr8_6).size wr8_6 wr8_7 := hb'
          have Ewr8_7 : Hid (Below w0.heap.size w0 wr8_7) := Ewr8_6.out.trans (hbwr8_7.mono Ewr8_6.out.size)
          have Qwr8_7_0 := ((bcell Ewr8_7.out).1 _ _ z0).trans q_0
          have Qwr8_7_1 := ((bcell Ewr8_7.out).1 _ _ z0).trans q_1
          have Qwr8_7_2 := ((bcell Ewr8_7.out).1 _ _ z0).trans q_2
          have Qwr8_7_3 := ((bcell Ewr8_7.out).1 _ _ z0).trans q_3
          have Qwr8_7_4 := ((bcell Ewr8_7.out).1 _ _ z0).trans q_4
          have Qwr8_7_5 := ((bcell Ewr8_7.out).1 _ _ z0).trans q_5
          have S1wr8_7 : Hid (SliceG wr8_7 (World.heap w0.drew).size v1 L) := S1wr8_6.out.below hbwr8_7
          have Xwr8_7 : Hid (BoxG wr8_7 bwr8_6) := Xwr8_6.out.below hbwr8_7
          have ywr8_7 := hbwr8_7.size
          have SSwr8_7 : Hid (SliceG wr8_7 w0.heap.size (.slice psx Z.ar.length csx) Z.ar) := sx1.mono Ewr8_6.out.size
          have PN : Hid (0 < Z.ar.length → ∃ g, (Value.slice psx Z.ar.length csx).ownBlock = some g ∧ g ≠ bwr8_6) := fun h => by
            obtain ⟨g, e, h1, -⟩ := sx1.1.place h
            exact ⟨g, e, by have := Xwr8_6.out.lt; omega⟩
          clear sx1 hb' hbwr8_7
          try (go_wp2_with fail)
          refine hK.out _ _ ?_ (fun hH4 => ?_)
          · (try dsimp only)
            first | go_keep | (refine ⟨?_, ?_, ?_, ?_, ?_, ?_⟩ <;> assumption)
          clear hK K hH3
          try simp only [Act.put, List.setIfInBounds_toArray, List.set_cons_zero, List.set_cons_succ]
          refine wpAnyH_ready (rs := [7]) (by kernel_rfl) (by simp) ?_
          refine AllReadyH.cons (o := { dst := none, op := Op.store 33 (Operand.tmp 8) (Operand.tmp 30), type := 0, pos := "exact.go:3003", after := #[{ on := 6, ground := Ground.data }, { on := 5, ground := Ground.data }, { on := 5, ground := Ground.chain }, { on := 0, ground := Ground.phase }, { on := 1, ground := Ground.phase }, { on := 2, ground := Ground.phase }, { on := 3, ground := Ground.phase }, { on := 4, ground := Ground.phase }, { on := 5, ground := Ground.phase }, { on := 6, ground := Ground.phase }], guard := none }) rfl (fun K hK => ?_) AllReadyH.nil
          · skip
            obtain ⟨x0, x1, x2, f0, f1, f2, hlt⟩ := Xwr8_7.out
            have hne : ¬ w.heap.size = bwr8_6 := by have := z0; have := ewr8_6; omega
            obtain ⟨wr8_8, hwr8_8⟩ : ∃ W, W = ((World.setCell wr8_7 ⟨bwr8_6, 0, none⟩ (.slice psx Z.ar.length csx)).setCell ⟨bwr8_6, 1, none⟩ (.bool Z.us)).setCell ⟨bwr8_6, 2, none⟩ (.int .i64 Z.co) := ⟨_, rfl⟩
            have Hwr8_8 : Hid (wr8_8 = ((World.setCell wr8_7 ⟨bwr8_6, 0, none⟩ (.slice psx Z.ar.length csx)).setCell ⟨bwr8_6, 1, none⟩ (.bool Z.us)).setCell ⟨bwr8_6, 2, none⟩ (.int .i64 Z.co)) := hwr8_8
            have Ewr8_8 : Hid (Below w0.heap.size w0 wr8_8) := by show Below _ _ _; rw [hwr8_8]; exact Ewr8_7.out.trans ((store3G_below (Below.refl bwr8_6 wr8_7)).mono ewr8_6)
            have Qwr8_8_0 := ((bcell Ewr8_8.out).1 _ _ z0).trans q_0
            have Qwr8_8_1 := ((bcell Ewr8_8.out).1 _ _ z0).trans q_1
            have Qwr8_8_2 := ((bcell Ewr8_8.out).1 _ _ z0).trans q_2
            have Qwr8_8_3 := ((bcell Ewr8_8.out).1 _ _ z0).trans q_3
            have Qwr8_8_4 := ((bcell Ewr8_8.out).1 _ _ z0).trans q_4
            have Qwr8_8_5 := ((bcell Ewr8_8.out).1 _ _ z0).trans q_5
            have Iwr8_8 : Hid (InBoxG wr8_8 bwr8_6 (.slice psx Z.ar.length csx) Z) := by show InBoxG _ _ _ _; rw [hwr8_8]; exact inBoxG_stored Xwr8_7.out
            have SSwr8_8 : Hid (SliceG wr8_8 w0.heap.size (.slice psx Z.ar.length csx) Z.ar) := by show SliceG _ _ _ _; rw [hwr8_8]; exact keep_cell (keep_cell (keep_cell SSwr8_7.out PN.out) PN.out) PN.out
            clear hwr8_8
            go_simp
            rw [← Hwr8_8.out]
            clear Hwr8_8
            refine hK.out _ _ ?_ (fun hH5 => ?_)
            · (try dsimp only)
              first | go_keep | (refine ⟨?_, ?_, ?_, ?_, ?_, ?_⟩ <;> assumption)
            clear hK K hH4
            try simp only [Act.put, List.setIfInBounds_toArray, List.set_cons_zero, List.set_cons_succ]
            refine wpAnyH_done (by kernel_rfl) ?_ _
            exact tail bwr8_6 _ _ _ wr8_8 Ewr8_8 Iwr8_8 SSwr8_8
    · skip
      obtain ⟨wr8_9, hwr8_9⟩ : ∃ W, W = World.alloc wr8_1 (.cells #[.slice none 0 0, .bool false, .int .i64 0] 33) := ⟨_, rfl⟩
      have Hwr8_9 : Hid (wr8_9 = World.alloc wr8_1 (.cells #[.slice none 0 0, .bool false, .int .i64 0] 33)) := hwr8_9
      have hbwr8_9 : Below (World.heap wr8_1).size wr8_1 wr8_9 := by rw [hwr8_9]; exact (Below.refl _ _).alloc (Nat.le_refl _) _
      have Ewr8_9 : Hid (Below w0.heap.size w0 wr8_9) := Ewr8_1.out.trans (hbwr8_9.mono Ewr8_1.out.size)
      have Qwr8_9_0 := ((bcell Ewr8_9.out).1 _ _ z0).trans q_0
      have Qwr8_9_1 := ((bcell Ewr8_9.out).1 _ _ z0).trans q_1
      have Qwr8_9_2 := ((bcell Ewr8_9.out).1 _ _ z0).trans q_2
      have Qwr8_9_3 := ((bcell Ewr8_9.out).1 _ _ z0).trans q_3
      have Qwr8_9_4 := ((bcell Ewr8_9.out).1 _ _ z0).trans q_4
      have Qwr8_9_5 := ((bcell Ewr8_9.out).1 _ _ z0).trans q_5
      have S1wr8_9 : Hid (SliceG wr8_9 (World.heap w0.drew).size v1 L) := S1wr8_1.out.below hbwr8_9
      have ywr8_9 := hbwr8_9.size
      obtain ⟨bwr8_9, hqwr8_9⟩ : ∃ b, b = (World.heap wr8_1).size := ⟨_, rfl⟩
      have Hqwr8_9 : Hid (bwr8_9 = (World.heap wr8_1).size) := hqwr8_9
      have Xwr8_9 : Hid (BoxG wr8_9 bwr8_9) := by show BoxG _ _; rw [hwr8_9, hqwr8_9]; exact boxG_made _ _
      have gwr8_9 : bwr8_9 < wr8_9.heap.size := by rw [hwr8_9, hqwr8_9]; simp
      have ewr8_9 : w0.heap.size ≤ bwr8_9 := by rw [hqwr8_9]; exact Ewr8_1.out.size
      clear hwr8_9 hbwr8_9 hqwr8_9
      go_simp
      rw [← Hwr8_9.out, ← Hqwr8_9.out]
      clear Hwr8_9 Hqwr8_9
      refine hK.out _ _ ?_ (fun hH2 => ?_)
      · (try dsimp only)
        first | go_keep | (refine ⟨?_, ?_, ?_, ?_, ?_, ?_⟩ <;> assumption)
      clear hK K hH1
      try simp only [Act.put, List.setIfInBounds_toArray, List.set_cons_zero, List.set_cons_succ]
      refine wpAnyH_ready (rs := [3]) (by kernel_rfl) (by simp) ?_
      refine AllReadyH.cons (o := { dst := some 28, op := Op.call { callee := Callee.value (Operand.func 24), args := #[Operand.tmp 27], argTypes := #[39] }, type := 42, pos := "exact.go:3003", after := #[{ on := 2, ground := Ground.data }, { on := 1, ground := Ground.chain }], guard := none }) rfl (fun K hK => ?_) AllReadyH.nil
      · skip
        go_simp
        refine (toAsk_any tp si tc sa re ye _).mono ?_
        rintro e wr8_10 ⟨rfl, hb'⟩
        have hbwr8_10 : Below (World.heap wr8_9).size wr8_9 wr8_10 := hb'
        have Ewr8_10 : Hid (Below w0.heap.size w0 wr8_10) := Ewr8_9.out.trans (hbwr8_10.mono Ewr8_9.out.size)
        have Qwr8_10_0 := ((bcell Ewr8_10.out).1 _ _ z0).trans q_0
        have Qwr8_10_1 := ((bcell Ewr8_10.out).1 _ _ z0).trans q_1
        have Qwr8_10_2 := ((bcell Ewr8_10.out).1 _ _ z0).trans q_2
        have Qwr8_10_3 := ((bcell Ewr8_10.out).1 _ _ z0).trans q_3
        have Qwr8_10_4 := ((bcell Ewr8_10.out).1 _ _ z0).trans q_4
        have Qwr8_10_5 := ((bcell Ewr8_10.out).1 _ _ z0).trans q_5
        have S1wr8_10 : Hid (SliceG wr8_10 (World.heap w0.drew).size v1 L) := S1wr8_9.out.below hbwr8_10
        have Xwr8_10 : Hid (BoxG wr8_10 bwr8_9) := Xwr8_9.out.below hbwr8_10
        have ywr8_10 := hbwr8_10.size
        clear hb' hbwr8_10
        try (go_wp2_with fail)
        refine hK.out _ _ ?_ (fun hH3 => ?_)
        · (try dsimp only)
          first | go_keep | (refine ⟨?_, ?_, ?_, ?_, ?_, ?_⟩ <;> assumption)
        clear hK K hH2
        try simp only [Act.put, List.setIfInBounds_toArray, List.set_cons_zero, List.set_cons_succ]
        refine wpAnyH_ready (rs := [5]) (by kernel_rfl) (by simp) ?_
        refine AllReadyH.cons (o := { dst := some 30, op := Op.call { callee := Callee.value (Operand.func 23), args := #[Operand.tmp 26, Operand.tmp 28, Operand.tmp 29], argTypes := #[24, 42, 2] }, type := 33, pos := "exact.go:3003", after := #[{ on := 1, ground := Ground.data }, { on := 3, ground := Ground.data }, { on := 4, ground := Ground.data }, { on := 3, ground := Ground.chain }], guard := none }) rfl (fun K hK => ?_) AllReadyH.nil
        · skip
          go_simp
          refine (KS.out _ _ _ S1wr8_10.out).mono ?_
          rintro e wr8_11 ⟨vx', rfl, ⟨sx, rfl, sx1⟩, hb'⟩
          obtain ⟨psx, csx, hsx⟩ : ∃ p c, sx = .slice p Z.ar.length c := by obtain ⟨⟨p, cap, e, -⟩, -⟩ := sx1; exact ⟨p, cap, e⟩
          subst hsx
          have hbwr8_11 : Below (World.heap wr8_10).size wr8_10 wr8_11 := hb'
          have Ewr8_11 : Hid (Below w0.heap.size w0 wr8_11) := Ewr8_10.out.trans (hbwr8_11.mono Ewr8_10.out.size)
          have Qwr8_11_0 := ((bcell Ewr8_11.out).1 _ _ z0).trans q_0
          have Qwr8_11_1 := ((bcell Ewr8_11.out).1 _ _ z0).trans q_1
          have Qwr8_11_2 := ((bcell Ewr8_11.out).1 _ _ z0).trans q_2
          have Qwr8_11_3 := ((bcell Ewr8_11.out).1 _ _ z0).trans q_3
          have Qwr8_11_4 := ((bcell Ewr8_11.out).1 _ _ z0).trans q_4
          have Qwr8_11_5 := ((bcell Ewr8_11.out).1 _ _ z0).trans q_5
          have S1wr8_11 : Hid (SliceG wr8_11 (World.heap w0.drew).size v1 L) := S1wr8_10.out.below hbwr8_11
          have Xwr8_11 : Hid (BoxG wr8_11 bwr8_9) := Xwr8_10.out.below hbwr8_11
          have ywr8_11 := hbwr8_11.size
          have SSwr8_11 : Hid (SliceG wr8_11 w0.heap.size (.slice psx Z.ar.length csx) Z.ar) := sx1.mono Ewr8_10.out.size
          have PN : Hid (0 < Z.ar.length → ∃ g, (Value.slice psx Z.ar.length csx).ownBlock = some g ∧ g ≠ bwr8_9) := fun h => by
            obtain ⟨g, e, h1, -⟩ := sx1.1.place h
            exact ⟨g, e, by have := Xwr8_10.out.lt; omega⟩
          clear sx1 hb' hbwr8_11
          try (go_wp2_with fail)
          refine hK.out _ _ ?_ (fun hH4 => ?_)
          · (try dsimp only)
            first | go_keep | (refine ⟨?_, ?_, ?_, ?_, ?_, ?_⟩ <;> assumption)
          clear hK K hH3
          try simp only [Act.put, List.setIfInBounds_toArray, List.set_cons_zero, List.set_cons_succ]
          refine wpAnyH_ready (rs := [7]) (by kernel_rfl) (by simp) ?_
          refine AllReadyH.cons (o := { dst := none, op := Op.store 33 (Operand.tmp 8) (Operand.tmp 30), type := 0, pos := "exact.go:3003", after := #[{ on := 6, ground := Ground.data }, { on := 5, ground := Ground.data }, { on := 5, ground := Ground.chain }, { on := 0, ground := Ground.phase }, { on := 1, ground := Ground.phase }, { on := 2, ground := Ground.phase }, { on := 3, ground := Ground.phase }, { on := 4, ground := Ground.phase }, { on := 5, ground := Ground.phase }, { on := 6, ground := Ground.phase }], guard := none }) rfl (fun K hK => ?_) AllReadyH.nil
          · skip
            obtain ⟨x0, x1, x2, f0, f1, f2, hlt⟩ := Xwr8_11.out
            have hne : ¬ w.heap.size = bwr8_9 := by have := z0; have := ewr8_9; omega
            obtain ⟨wr8_12, hwr8_12⟩ : ∃ W, W = ((World.setCell wr8_11 ⟨bwr8_9, 0, none⟩ (.slice psx Z.ar.length csx)).setCell ⟨bwr8_9, 1, none⟩ (.bool Z.us)).setCell ⟨bwr8_9, 2, none⟩ (.int .i64 Z.co) := ⟨_, rfl⟩
            have Hwr8_12 : Hid (wr8_12 = ((World.setCell wr8_11 ⟨bwr8_9, 0, none⟩ (.slice psx Z.ar.length csx)).setCell ⟨bwr8_9, 1, none⟩ (.bool Z.us)).setCell ⟨bwr8_9, 2, none⟩ (.int .i64 Z.co)) := hwr8_12
            have Ewr8_12 : Hid (Below w0.heap.size w0 wr8_12) := by show Below _ _ _; rw [hwr8_12]; exact Ewr8_11.out.trans ((store3G_below (Below.refl bwr8_9 wr8_11)).mono ewr8_9)
            have Qwr8_12_0 := ((bcell Ewr8_12.out).1 _ _ z0).trans q_0
            have Qwr8_12_1 := ((bcell Ewr8_12.out).1 _ _ z0).trans q_1
            have Qwr8_12_2 := ((bcell Ewr8_12.out).1 _ _ z0).trans q_2
            have Qwr8_12_3 := ((bcell Ewr8_12.out).1 _ _ z0).trans q_3
            have Qwr8_12_4 := ((bcell Ewr8_12.out).1 _ _ z0).trans q_4
            have Qwr8_12_5 := ((bcell Ewr8_12.out).1 _ _ z0).trans q_5
            have Iwr8_12 : Hid (InBoxG wr8_12 bwr8_9 (.slice psx Z.ar.length csx) Z) := by show InBoxG _ _ _ _; rw [hwr8_12]; exact inBoxG_stored Xwr8_11.out
            have SSwr8_12 : Hid (SliceG wr8_12 w0.heap.size (.slice psx Z.ar.length csx) Z.ar) := by show SliceG _ _ _ _; rw [hwr8_12]; exact keep_cell (keep_cell (keep_cell SSwr8_11.out PN.out) PN.out) PN.out
            clear hwr8_12
            go_simp
            rw [← Hwr8_12.out]
            clear Hwr8_12
            refine hK.out _ _ ?_ (fun hH5 => ?_)
            · (try dsimp only)
              first | go_keep | (refine ⟨?_, ?_, ?_, ?_, ?_, ?_⟩ <;> assumption)
            clear hK K hH4
            try simp only [Act.put, List.setIfInBounds_toArray, List.set_cons_zero, List.set_cons_succ]
            refine wpAnyH_done (by kernel_rfl) ?_ _
            exact tail bwr8_9 _ _ _ wr8_12 Ewr8_12 Iwr8_12 SSwr8_12
  · skip
    obtain ⟨wr8_13, hwr8_13⟩ : ∃ W, W = (World.alloc w0 (.cells #[.slice none 0 0, .bool false, .int .i64 0] 33)).drew := ⟨_, rfl⟩
    have Hwr8_13 : Hid (wr8_13 = (World.alloc w0 (.cells #[.slice none 0 0, .bool false, .int .i64 0] 33)).drew) := hwr8_13
    have Ewr8_13 : Hid (Below w0.heap.size w0 wr8_13) := by show Below _ _ _; rw [hwr8_13]; exact ((Below.refl _ _).alloc (Nat.le_refl _) _).drew
    have Qwr8_13_0 := ((bcell Ewr8_13.out).1 _ _ z0).trans q_0
    have Qwr8_13_1 := ((bcell Ewr8_13.out).1 _ _ z0).trans q_1
    have Qwr8_13_2 := ((bcell Ewr8_13.out).1 _ _ z0).trans q_2
    have Qwr8_13_3 := ((bcell Ewr8_13.out).1 _ _ z0).trans q_3
    have Qwr8_13_4 := ((bcell Ewr8_13.out).1 _ _ z0).trans q_4
    have Qwr8_13_5 := ((bcell Ewr8_13.out).1 _ _ z0).trans q_5
    obtain ⟨bwr8_13, hqwr8_13⟩ : ∃ b, b = w0.heap.size := ⟨_, rfl⟩
    have Hqwr8_13 : Hid (bwr8_13 = w0.heap.size) := hqwr8_13
    have Xwr8_13 : Hid (BoxG wr8_13 bwr8_13) := by show BoxG _ _; rw [hwr8_13, hqwr8_13]; exact (boxG_made _ _).below (Below.refl _ _).drew
    have ewr8_13 : w0.heap.size ≤ bwr8_13 := by rw [hqwr8_13]; exact Nat.le_refl _
    clear hwr8_13 hqwr8_13
    go_simp
    rw [← Hwr8_13.out, ← Hqwr8_13.out]
    clear Hwr8_13 Hqwr8_13
    refine hK.out _ _ ?_ (fun hH1 => ?_)
    · (try dsimp only)
      first | go_keep | (refine ⟨?_, ?_, ?_, ?_, ?_, ?_⟩ <;> assumption)
    clear hK K hH0
    try simp only [Act.put, List.setIfInBounds_toArray, List.set_cons_zero, List.set_cons_succ]
    refine wpAnyH_ready (rs := [1]) (by kernel_rfl) (by simp) ?_
    refine AllReadyH.cons (o := { dst := some 26, op := Op.call { callee := Callee.value (Operand.func 10), args := #[Operand.tmp 25], argTypes := #[22] }, type := 24, pos := "exact.go:3003", after := #[{ on := 0, ground := Ground.data }], guard := none }) rfl (fun K hK => ?_) AllReadyH.nil
    · skip
      go_simp
      refine (KT.out _ (B0.out.trans (Ewr8_13.out.mono B0.out.size))).mono ?_
      rintro e wr8_14 ⟨v1, rfl, s1, hb'⟩
      have hbwr8_14 : Below (World.heap wr8_13).size wr8_13 wr8_14 := hb'
      have Ewr8_14 : Hid (Below w0.heap.size w0 wr8_14) := Ewr8_13.out.trans (hbwr8_14.mono Ewr8_13.out.size)
      have Qwr8_14_0 := ((bcell Ewr8_14.out).1 _ _ z0).trans q_0
      have Qwr8_14_1 := ((bcell Ewr8_14.out).1 _ _ z0).trans q_1
      have Qwr8_14_2 := ((bcell Ewr8_14.out).1 _ _ z0).trans q_2
      have Qwr8_14_3 := ((bcell Ewr8_14.out).1 _ _ z0).trans q_3
      have Qwr8_14_4 := ((bcell Ewr8_14.out).1 _ _ z0).trans q_4
      have Qwr8_14_5 := ((bcell Ewr8_14.out).1 _ _ z0).trans q_5
      have Xwr8_14 : Hid (BoxG wr8_14 bwr8_13) := Xwr8_13.out.below hbwr8_14
      have ywr8_14 := hbwr8_14.size
      have S1wr8_14 : Hid (SliceG wr8_14 (World.heap wr8_13).size v1 L) := s1
      clear s1 hb' hbwr8_14
      try (go_wp2_with fail)
      refine hK.out _ _ ?_ (fun hH2 => ?_)
      · (try dsimp only)
        first | go_keep | (refine ⟨?_, ?_, ?_, ?_, ?_, ?_⟩ <;> assumption)
      clear hK K hH1
      try simp only [Act.put, List.setIfInBounds_toArray, List.set_cons_zero, List.set_cons_succ]
      refine wpAnyH_ready (rs := [3]) (by kernel_rfl) (by simp) ?_
      refine AllReadyH.cons (o := { dst := some 28, op := Op.call { callee := Callee.value (Operand.func 24), args := #[Operand.tmp 27], argTypes := #[39] }, type := 42, pos := "exact.go:3003", after := #[{ on := 2, ground := Ground.data }, { on := 1, ground := Ground.chain }], guard := none }) rfl (fun K hK => ?_) AllReadyH.nil
      · skip
        go_simp
        refine (toAsk_any tp si tc sa re ye _).mono ?_
        rintro e wr8_15 ⟨rfl, hb'⟩
        have hbwr8_15 : Below (World.heap wr8_14).size wr8_14 wr8_15 := hb'
        have Ewr8_15 : Hid (Below w0.heap.size w0 wr8_15) := Ewr8_14.out.trans (hbwr8_15.mono Ewr8_14.out.size)
        have Qwr8_15_0 := ((bcell Ewr8_15.out).1 _ _ z0).trans q_0
        have Qwr8_15_1 := ((bcell Ewr8_15.out).1 _ _ z0).trans q_1
        have Qwr8_15_2 := ((bcell Ewr8_15.out).1 _ _ z0).trans q_2
        have Qwr8_15_3 := ((bcell Ewr8_15.out).1 _ _ z0).trans q_3
        have Qwr8_15_4 := ((bcell Ewr8_15.out).1 _ _ z0).trans q_4
        have Qwr8_15_5 := ((bcell Ewr8_15.out).1 _ _ z0).trans q_5
        have S1wr8_15 : Hid (SliceG wr8_15 (World.heap wr8_13).size v1 L) := S1wr8_14.out.below hbwr8_15
        have Xwr8_15 : Hid (BoxG wr8_15 bwr8_13) := Xwr8_14.out.below hbwr8_15
        have ywr8_15 := hbwr8_15.size
        clear hb' hbwr8_15
        try (go_wp2_with fail)
        refine hK.out _ _ ?_ (fun hH3 => ?_)
        · (try dsimp only)
          first | go_keep | (refine ⟨?_, ?_, ?_, ?_, ?_, ?_⟩ <;> assumption)
        clear hK K hH2
        try simp only [Act.put, List.setIfInBounds_toArray, List.set_cons_zero, List.set_cons_succ]
        refine wpAnyH_ready (rs := [5]) (by kernel_rfl) (by simp) ?_
        refine AllReadyH.cons (o := { dst := some 30, op := Op.call { callee := Callee.value (Operand.func 23), args := #[Operand.tmp 26, Operand.tmp 28, Operand.tmp 29], argTypes := #[24, 42, 2] }, type := 33, pos := "exact.go:3003", after := #[{ on := 1, ground := Ground.data }, { on := 3, ground := Ground.data }, { on := 4, ground := Ground.data }, { on := 3, ground := Ground.chain }], guard := none }) rfl (fun K hK => ?_) AllReadyH.nil
        · skip
          go_simp
          refine (KS.out _ _ _ S1wr8_15.out).mono ?_
          rintro e wr8_16 ⟨vx', rfl, ⟨sx, rfl, sx1⟩, hb'⟩
          obtain ⟨psx, csx, hsx⟩ : ∃ p c, sx = .slice p Z.ar.length c := by obtain ⟨⟨p, cap, e, -⟩, -⟩ := sx1; exact ⟨p, cap, e⟩
          subst hsx
          have hbwr8_16 : Below (World.heap wr8_15).size wr8_15 wr8_16 := hb'
          have Ewr8_16 : Hid (Below w0.heap.size w0 wr8_16) := Ewr8_15.out.trans (hbwr8_16.mono Ewr8_15.out.size)
          have Qwr8_16_0 := ((bcell Ewr8_16.out).1 _ _ z0).trans q_0
          have Qwr8_16_1 := ((bcell Ewr8_16.out).1 _ _ z0).trans q_1
          have Qwr8_16_2 := ((bcell Ewr8_16.out).1 _ _ z0).trans q_2
          have Qwr8_16_3 := ((bcell Ewr8_16.out).1 _ _ z0).trans q_3
          have Qwr8_16_4 := ((bcell Ewr8_16.out).1 _ _ z0).trans q_4
          have Qwr8_16_5 := ((bcell Ewr8_16.out).1 _ _ z0).trans q_5
          have S1wr8_16 : Hid (SliceG wr8_16 (World.heap wr8_13).size v1 L) := S1wr8_15.out.below hbwr8_16
          have Xwr8_16 : Hid (BoxG wr8_16 bwr8_13) := Xwr8_15.out.below hbwr8_16
          have ywr8_16 := hbwr8_16.size
          have SSwr8_16 : Hid (SliceG wr8_16 w0.heap.size (.slice psx Z.ar.length csx) Z.ar) := sx1.mono Ewr8_15.out.size
          have PN : Hid (0 < Z.ar.length → ∃ g, (Value.slice psx Z.ar.length csx).ownBlock = some g ∧ g ≠ bwr8_13) := fun h => by
            obtain ⟨g, e, h1, -⟩ := sx1.1.place h
            exact ⟨g, e, by have := Xwr8_15.out.lt; omega⟩
          clear sx1 hb' hbwr8_16
          try (go_wp2_with fail)
          refine hK.out _ _ ?_ (fun hH4 => ?_)
          · (try dsimp only)
            first | go_keep | (refine ⟨?_, ?_, ?_, ?_, ?_, ?_⟩ <;> assumption)
          clear hK K hH3
          try simp only [Act.put, List.setIfInBounds_toArray, List.set_cons_zero, List.set_cons_succ]
          refine wpAnyH_ready (rs := [7]) (by kernel_rfl) (by simp) ?_
          refine AllReadyH.cons (o := { dst := none, op := Op.store 33 (Operand.tmp 8) (Operand.tmp 30), type := 0, pos := "exact.go:3003", after := #[{ on := 6, ground := Ground.data }, { on := 5, ground := Ground.data }, { on := 5, ground := Ground.chain }, { on := 0, ground := Ground.phase }, { on := 1, ground := Ground.phase }, { on := 2, ground := Ground.phase }, { on := 3, ground := Ground.phase }, { on := 4, ground := Ground.phase }, { on := 5, ground := Ground.phase }, { on := 6, ground := Ground.phase }], guard := none }) rfl (fun K hK => ?_) AllReadyH.nil
          · skip
            obtain ⟨x0, x1, x2, f0, f1, f2, hlt⟩ := Xwr8_16.out
            have hne : ¬ w.heap.size = bwr8_13 := by have := z0; have := ewr8_13; omega
            obtain ⟨wr8_17, hwr8_17⟩ : ∃ W, W = ((World.setCell wr8_16 ⟨bwr8_13, 0, none⟩ (.slice psx Z.ar.length csx)).setCell ⟨bwr8_13, 1, none⟩ (.bool Z.us)).setCell ⟨bwr8_13, 2, none⟩ (.int .i64 Z.co) := ⟨_, rfl⟩
            have Hwr8_17 : Hid (wr8_17 = ((World.setCell wr8_16 ⟨bwr8_13, 0, none⟩ (.slice psx Z.ar.length csx)).setCell ⟨bwr8_13, 1, none⟩ (.bool Z.us)).setCell ⟨bwr8_13, 2, none⟩ (.int .i64 Z.co)) := hwr8_17
            have Ewr8_17 : Hid (Below w0.heap.size w0 wr8_17) := by show Below _ _ _; rw [hwr8_17]; exact Ewr8_16.out.trans ((store3G_below (Below.refl bwr8_13 wr8_16)).mono ewr8_13)
            have Qwr8_17_0 := ((bcell Ewr8_17.out).1 _ _ z0).trans q_0
            have Qwr8_17_1 := ((bcell Ewr8_17.out).1 _ _ z0).trans q_1
            have Qwr8_17_2 := ((bcell Ewr8_17.out).1 _ _ z0).trans q_2
            have Qwr8_17_3 := ((bcell Ewr8_17.out).1 _ _ z0).trans q_3
            have Qwr8_17_4 := ((bcell Ewr8_17.out).1 _ _ z0).trans q_4
            have Qwr8_17_5 := ((bcell Ewr8_17.out).1 _ _ z0).trans q_5
            have Iwr8_17 : Hid (InBoxG wr8_17 bwr8_13 (.slice psx Z.ar.length csx) Z) := by show InBoxG _ _ _ _; rw [hwr8_17]; exact inBoxG_stored Xwr8_16.out
            have SSwr8_17 : Hid (SliceG wr8_17 w0.heap.size (.slice psx Z.ar.length csx) Z.ar) := by show SliceG _ _ _ _; rw [hwr8_17]; exact keep_cell (keep_cell (keep_cell SSwr8_16.out PN.out) PN.out) PN.out
            clear hwr8_17
            go_simp
            rw [← Hwr8_17.out]
            clear Hwr8_17
            refine hK.out _ _ ?_ (fun hH5 => ?_)
            · (try dsimp only)
              first | go_keep | (refine ⟨?_, ?_, ?_, ?_, ?_, ?_⟩ <;> assumption)
            clear hK K hH4
            try simp only [Act.put, List.setIfInBounds_toArray, List.set_cons_zero, List.set_cons_succ]
            refine wpAnyH_done (by kernel_rfl) ?_ _
            exact tail bwr8_13 _ _ _ wr8_17 Ewr8_17 Iwr8_17 SSwr8_17
end Go.Proofs.Ytehnklgpdjfcgaa

/- 2 of this claim's texts, one behind the other. -/
import Derived.Test.YtclpamjgglfljaaDoorPart6
import Derived.Test.YtclpamjgglfljaaDoorPart7
import Derived.Test.YtclpamjgglfljaaDoorPart1
import Derived.Test.YtclpamjgglfljaaDoorPart3
import Derived.Handed
import Derived.Lay
import Derived.MakeChecks
import Derived.Lib.LaidTab
import Derived.Stop.LaidErr
/- The law FnExactFrameGo, walked. Written by lawgo.py. -/
namespace Go.Proofs.YtclpamjgglfljaaDoor
open Go.RowKit

theorem keep_cell {W : World} {B bo o : Nat} {v x : Value} {L : List Fr} (h : SliceF W B v L) (hne : 0 < L.length → ∃ g, v.ownBlock = some g ∧ g ≠ bo) : SliceF (W.setCell ⟨bo, o, none⟩ x) B v L := by
  obtain ⟨⟨p, cap, rfl, hg⟩, h2⟩ := h
  refine ⟨⟨p, cap, rfl, fun hn => ?_⟩, h2⟩
  obtain ⟨g, rfl, hB, hgw, hc⟩ := hg hn
  obtain ⟨g', e, hn'⟩ := hne hn
  obtain rfl : g = g' := Option.some.inj e
  have hk : (W.setCell ⟨bo, o, none⟩ x).heap[g]? = W.heap[g]? := by
    simp only [World.setCell, Array.getElem?_modify]
    rw [if_neg (Ne.symm hn')]
  refine ⟨g, rfl, hB, by simpa using hgw, fun j hj o' ho => ⟨?_, ?_⟩⟩
  · rw [World.cell?_of_block (a := ⟨g, j * 9 + o', none⟩) hk]; exact (hc j hj o' ho).1
  · rw [World.frozen?_of_block (a := ⟨g, j * 9 + o', none⟩) hk]; exact (hc j hj o' ho).2
theorem toUrl_c (sc ho pt : ByteArray) (po : Int) (w : World) : Calls Tryd.prog 11 #[.agg #[.string sc, .string ho, .int .i64 po, .string pt]] w fun e w' => e = .returned (.agg #[.string sc, .string ho, .int .i64 po, .string pt]) ∧ Below w.heap.size w w' := toUrl_any sc ho pt po w
theorem inBoxF_stored {W : World} {b : Nat} {s : Value} {Z : FO} (X : BoxF W b) : InBoxF (((W.setCell ⟨b, 0, none⟩ s).setCell ⟨b, 1, none⟩ (.int .i64 Z.id)).setCell ⟨b, 2, none⟩ (.int .i64 Z.co)) b s Z := by
  have n (i j : Nat) (h : i ≠ j) : (⟨b, i, none⟩ : Addr) ≠ ⟨b, j, none⟩ := by intro e; injection e with _ e; exact h e
  refine ⟨?_, ?_, ?_, by simpa using X.lt⟩
  · rw [World.cell?_setCell_other _ _ _ _ (n 2 0 (by decide)), World.cell?_setCell_other _ _ _ _ (n 1 0 (by decide))]; exact World.cell?_setCell_same _ _ _ X.c0
  · rw [World.cell?_setCell_other _ _ _ _ (n 2 1 (by decide))]; exact World.cell?_setCell_same _ _ _ (by rw [World.cell?_setCell_other _ _ _ _ (n 0 1 (by decide))]; exact X.c1)
  · exact World.cell?_setCell_same _ _ _ (by rw [World.cell?_setCell_other _ _ _ _ (n 1 2 (by decide)), World.cell?_setCell_other _ _ _ _ (n 0 2 (by decide))]; exact X.c2)

set_option maxRecDepth 10000 in
set_option maxHeartbeats 16000000 in
theorem lawFrameGo_any (a : Option Addr) (cap : Nat) (L : List Fr) (ra : Option Addr) (n rcap : Nat) (f : Nat → ByteArray) (id : Int) (sc ho pt : ByteArray) (po : Int) (w : World) (hG : MaxI w) (hr : FrRow w a L) (hn : L.length ≤ maxLen) (hs : StrRow w ra n f) (hm : n ≤ maxLen) (m1 : sc.size ≤ maxLen) (m2 : ho.size ≤ maxLen) (m3 : pt.size ≤ maxLen) :
    Calls Tryd.prog 3 #[.slice a L.length cap, .slice ra n rcap, .int .i64 id, .agg #[.string sc, .string ho, .int .i64 po, .string pt]] w fun e w' => e = .returned (.bool true) ∧ Below w.heap.size w w' := by
  obtain ⟨wu, hwu⟩ : ∃ W, W = w.alloc (.cells #[.string sc, .string ho, .int .i64 po, .string pt] 25) := ⟨_, rfl⟩
  have Bu : Hid (Below w.heap.size w wu) := by show Below _ _ _; rw [hwu]; exact (Below.refl _ _).alloc (Nat.le_refl _) _
  have HR : Hid (FrRow wu a L) := hr.below Bu.out
  have HS : Hid (StrRow wu ra n f) := hs.below Bu.out
  have HMu : Hid (MaxI wu) := hG.on Bu.out
  have qu0 : World.cell? wu ⟨w.heap.size, 0, none⟩ = some (.string sc) := by rw [hwu]; simp
  have qu1 : World.cell? wu ⟨w.heap.size, 1, none⟩ = some (.string ho) := by rw [hwu]; simp
  have qu2 : World.cell? wu ⟨w.heap.size, 2, none⟩ = some (.int .i64 po) := by rw [hwu]; simp
  have qu3 : World.cell? wu ⟨w.heap.size, 3, none⟩ = some (.string pt) := by rw [hwu]; simp
  have zu : w.heap.size < wu.heap.size := by rw [hwu]; simp
  have Hwu : Hid (wu = w.alloc (.cells #[.string sc, .string ho, .int .i64 po, .string pt] 25)) := hwu
  clear hr hs hwu hG
  go_enter Tryd.func3, Tryd.ntmps3
  go_upto_region 1 with fail
  rw [← Hwu.out]
  clear Hwu
  go_wp2_with fail
  refine (szFrameS_any a cap L 1048576 _ HR.out hn (by decide) (by decide)).mono ?_
  rintro e wa ⟨⟨r, rfl, hr⟩, hb0⟩
  have Ba : Hid (Below wu.heap.size wu wa) := hb0
  clear hb0
  rcases hr with hr | ⟨r0, r1, hl, hf⟩
  · go_wp2
    go_ret
    exact ⟨rfl, Bu.out.trans (Ba.out.mono Bu.out.size)⟩
  have q : decide (r < 0) = false := by rw [decide_eq_false_iff_not]; omega
  go_wp2_with fail
  refine (szStringS_any ra n rcap f r _ (HS.out.below Ba.out) hm r0 r1).mono ?_
  rintro e wb ⟨⟨s, rfl, hs⟩, e1⟩
  have e2 := e1.symm
  subst e2
  clear e1
  rcases hs with hs | ⟨s0, s1, hnl, hfs⟩
  · go_wp2
    go_ret
    exact ⟨rfl, Bu.out.trans (Ba.out.mono Bu.out.size)⟩
  have q' : decide (s < 0) = false := by rw [decide_eq_false_iff_not]; omega
  have n1 : n ≤ 1048576 := by omega
  have HFs : Hid (∀ i, i < n → (f i).size ≤ 1048576) := fun i hi => by have := hfs i hi; omega
  have s2 : s ≤ 1048576 := by omega
  clear hfs hnl
  have qa0 : World.cell? wa ⟨w.heap.size, 0, none⟩ = some (.string sc) := ((bcell Ba.out).1 _ _ zu).trans qu0
  have qa1 : World.cell? wa ⟨w.heap.size, 1, none⟩ = some (.string ho) := ((bcell Ba.out).1 _ _ zu).trans qu1
  have qa2 : World.cell? wa ⟨w.heap.size, 2, none⟩ = some (.int .i64 po) := ((bcell Ba.out).1 _ _ zu).trans qu2
  have qa3 : World.cell? wa ⟨w.heap.size, 3, none⟩ = some (.string pt) := ((bcell Ba.out).1 _ _ zu).trans qu3
  go_wp2_with fail
  refine (szUrl_at sc ho pt po s _ m1 m2 m3 s0 s2).mono ?_
  rintro e w0 ⟨⟨r', rfl, hr⟩, hb0⟩
  have B0 : Hid (Below wu.heap.size wu w0) := Ba.out.trans (hb0.mono Ba.out.size)
  clear hb0 qa0 qa1 qa2 qa3 q q' s1 s2
  rcases hr with hr | ⟨r2, r3, hf2⟩
  · go_wp2
    go_ret
    exact ⟨rfl, Bu.out.trans (B0.out.mono Bu.out.size)⟩
  have q : decide (r' < 0) = false := by rw [decide_eq_false_iff_not]; omega
  have h1 : ∀ i, i < L.length → (atF L i).ho.size ≤ 1048576 := fun i hi => by have := hf i hi; omega
  have h2 : ho.size ≤ 1048576 := by omega
  clear hf2 hf
  have KT : Hid (∀ W, Below wu.heap.size wu W → Calls Tryd.prog 9 #[.slice a L.length cap] W fun e w' => ∃ v, e = .returned v ∧ SliceF w' W.heap.size v L ∧ Below W.heap.size W w') := fun W hb => toFrameS_any a cap L W (HR.out.below hb) hl
  have KR : Hid (∀ W, Below wu.heap.size wu W → Calls Tryd.prog 10 #[.slice ra n rcap] W fun e w' => ∃ v, e = .returned v ∧ SliceS w' W.heap.size v n f ∧ Below W.heap.size W w') := fun W hb => toStringS_any ra n rcap f W (HS.out.below hb) n1
  have KU : Hid (∀ W, Calls Tryd.prog 11 #[.agg #[.string sc, .string ho, .int .i64 po, .string pt]] W fun e w' => e = .returned (.agg #[.string sc, .string ho, .int .i64 po, .string pt]) ∧ Below W.heap.size W w') := fun W => toUrl_c sc ho pt po W
  have KS : Hid (∀ (v rv : Value) (B Br : Nat) (W : World), SliceF W B v L → SliceS W Br rv n f → Calls Tryd.prog 8 #[v, rv, .int .i64 id, .agg #[.string sc, .string ho, .int .i64 po, .string pt]] W fun e w' => ∃ v', e = .returned v' ∧ AnsF w' W.heap.size v' (goF L n f id sc ho pt po) ∧ Below W.heap.size W w') := fun v rv B Br W s sr => specFrameGo_any v rv L B Br n f id sc ho pt po W s hl sr n1 HFs.out
  have KI : Hid (∀ (v rv : Value) (B Br : Nat) (W : World), Below wu.heap.size wu W → SliceF W B v L → SliceS W Br rv n f → Calls Tryd.prog 12 #[v, rv, .int .i64 id, .agg #[.string sc, .string ho, .int .i64 po, .string pt]] W fun e w' => ∃ v', e = .returned v' ∧ AnsF w' W.heap.size v' (goF L n f id sc ho pt po) ∧ Below W.heap.size W w') := fun v rv B Br W hb s sr => frameGo_any v rv L B Br n f id sc ho pt po W (HMu.out.on hb) s hl sr n1 HFs.out h1 h2
  have hZ : (goF L n f id sc ho pt po).ar.length ≤ 17 := Nat.le_trans (goF_len L n f id sc ho pt po) (by decide)
  clear HR HS HFs HMu
  generalize goF L n f id sc ho pt po = Z at *
  go_upto_region 11 with fail
  have q_0 : World.cell? w0 ⟨w.heap.size, 0, none⟩ = some (.string sc) := ((bcell B0.out).1 _ _ zu).trans qu0
  have q_1 : World.cell? w0 ⟨w.heap.size, 1, none⟩ = some (.string ho) := ((bcell B0.out).1 _ _ zu).trans qu1
  have q_2 : World.cell? w0 ⟨w.heap.size, 2, none⟩ = some (.int .i64 po) := ((bcell B0.out).1 _ _ zu).trans qu2
  have q_3 : World.cell? w0 ⟨w.heap.size, 3, none⟩ = some (.string pt) := ((bcell B0.out).1 _ _ zu).trans qu3
  have z0 : w.heap.size < w0.heap.size := Nat.lt_of_lt_of_le zu B0.out.size
  rename_i K hK
  obtain ⟨tail, -⟩ : (∀ (bs : Nat) (u34 u36 u40 ss : Value) (W2 : World), w0.heap.size ≤ bs → Hid (Below w0.heap.size w0 W2) → Hid (InBoxF W2 bs ss Z) → Hid (SliceF W2 w0.heap.size ss Z.ar) → K { tmps := #[.slice a L.length cap, .slice ra n rcap, .int .i64 id, .agg #[.string sc, .string ho, .int .i64 po, .string pt], undef, undef, undef, .pointer (some ⟨w.heap.size, 0, none⟩), .bool false, .int .i64 r', .pointer (some ⟨bs, 0, none⟩), undef, undef, undef, undef, undef, undef, undef, .slice a L.length cap, .int .i64 1048576, .int .i64 r, .int .i64 r, .bool false, .slice ra n rcap, .int .i64 r, .int .i64 s, .int .i64 s, .bool false, .agg #[.string sc, .string ho, .int .i64 po, .string pt], .int .i64 s, .int .i64 r', .int .i64 r', .bool false, .slice a L.length cap, u34, .slice ra n rcap, u36, .int .i64 id, .agg #[.string sc, .string ho, .int .i64 po, .string pt], .agg #[.string sc, .string ho, .int .i64 po, .string pt], u40, undef, undef, undef, undef, undef, undef, undef, undef, undef, undef, undef, undef, undef, undef, undef, undef, undef, undef, undef, undef, undef, undef, undef, undef, undef, undef, undef, undef, undef, undef, undef, undef, undef, undef, undef, undef, undef, undef, undef, undef, undef, undef, undef, undef, undef, undef, undef, undef, undef, undef, undef, undef, undef, undef, undef, undef, undef, undef, undef, undef, undef, undef, undef, undef, undef, undef, undef, undef, undef], defers := [] } W2) ∧ True := by
    refine ⟨?_, trivial⟩
    intro bs u34 u36 u40 ss W2 hbs E2 Iss SS
    obtain ⟨pss, css, hvss⟩ : ∃ p c, ss = .slice p Z.ar.length c := by obtain ⟨⟨p, cap, e, -⟩, -⟩ := SS.out; exact ⟨p, cap, e⟩
    subst hvss
    have B2 : Hid (Below wu.heap.size wu W2) := B0.out.trans (E2.out.mono B0.out.size)
    have z02 : w0.heap.size ≤ W2.heap.size := E2.out.size
    refine hK _ _ ?_
    clear hK E2 KS q_0 q_1 q_2 q_3
    have zz0 : wu.heap.size ≤ w0.heap.size := B0.out.size
    have Os_W2 : Hid (Same w0.heap.size W2 W2) := Same.refl _ _
    go_wp2_with fail
    refine (KT.out _ B2.out).mono ?_
    rintro e w3 ⟨vx, rfl, svx, hbvx⟩
    have Os_w3 : Hid (Same w0.heap.size W2 w3) := Os_W2.out.below hbvx
    clear Os_W2
    have B_w3 : Hid (Below wu.heap.size wu w3) := B2.out.trans (hbvx.mono B2.out.size)
    have z_w3 : W2.heap.size ≤ w3.heap.size := hbvx.size
    have Svx : Hid (SliceF w3 W2.heap.size vx L) := svx
    have Ovx_w3 : Hid (Same W2.heap.size w3 w3) := Same.refl _ _
    clear hbvx svx
    go_wp2_with fail
    refine (KR.out _ B_w3.out).mono ?_
    rintro e w4 ⟨vy, rfl, svy, hbvy⟩
    have Os_w4 : Hid (Same w0.heap.size W2 w4) := Os_w3.out.below hbvy
    clear Os_w3
    have Ovx_w4 : Hid (Same W2.heap.size w3 w4) := Ovx_w3.out.below hbvy
    clear Ovx_w3
    have B_w4 : Hid (Below wu.heap.size wu w4) := B_w3.out.trans (hbvy.mono B_w3.out.size)
    have z_w4 : w3.heap.size ≤ w4.heap.size := hbvy.size
    have Svy : Hid (SliceS w4 w3.heap.size vy n f) := svy
    have Ovy_w4 : Hid (Same w3.heap.size w4 w4) := Same.refl _ _
    clear hbvy svy
    have Pvx : Hid (0 < L.length → ∀ g, vx.ownBlock = some g → g < w3.heap.size) := fun h g e => (Svx.out.1.below_end h g e).2
    have Pvy : Hid (0 < n → ∀ g, vy.ownBlock = some g → g < w4.heap.size) := fun h g e => (Svy.out.below_end h g e).2
    have q40 : World.cell? w4 ⟨w.heap.size, 0, none⟩ = some (.string sc) := ((bcell B_w4.out).1 _ _ zu).trans qu0
    have q41 : World.cell? w4 ⟨w.heap.size, 1, none⟩ = some (.string ho) := ((bcell B_w4.out).1 _ _ zu).trans qu1
    have q42 : World.cell? w4 ⟨w.heap.size, 2, none⟩ = some (.int .i64 po) := ((bcell B_w4.out).1 _ _ zu).trans qu2
    have q43 : World.cell? w4 ⟨w.heap.size, 3, none⟩ = some (.string pt) := ((bcell B_w4.out).1 _ _ zu).trans qu3
    go_wp2_with fail
    refine (KU.out _).mono ?_
    rintro e w5 ⟨rfl, hb5⟩
    have Os_w5 : Hid (Same w0.heap.size W2 w5) := Os_w4.out.below hb5
    clear Os_w4
    have Ovx_w5 : Hid (Same W2.heap.size w3 w5) := Ovx_w4.out.below hb5
    clear Ovx_w4
    have Ovy_w5 : Hid (Same w3.heap.size w4 w5) := Ovy_w4.out.below hb5
    clear Ovy_w4
    have B_w5 : Hid (Below wu.heap.size wu w5) := B_w4.out.trans (hb5.mono B_w4.out.size)
    have z_w5 : w4.heap.size ≤ w5.heap.size := hb5.size
    clear hb5 q40 q41 q42 q43
    go_wp2_with fail
    refine (KI.out _ _ _ _ _ B_w5.out (Svx.out.same Ovx_w5.out) (Svy.out.same Ovy_w5.out)).mono ?_
    rintro e w6 ⟨vg, rfl, ⟨sg, rfl, s6⟩, hb6⟩
    obtain ⟨psg, csg, hvsg⟩ : ∃ p c, sg = .slice p Z.ar.length c := by obtain ⟨⟨p, cap, e, -⟩, -⟩ := s6; exact ⟨p, cap, e⟩
    subst hvsg
    obtain ⟨W6, hW6⟩ : ∃ W, W = w6.alloc (.cells #[.slice psg Z.ar.length csg, .int .i64 Z.id, .int .i64 Z.co] 31) := ⟨_, rfl⟩
    have HW6 : Hid (W6 = w6.alloc (.cells #[.slice psg Z.ar.length csg, .int .i64 Z.id, .int .i64 Z.co] 31)) := hW6
    have AW6 : Below w6.heap.size w6 W6 := by rw [hW6]; exact (Below.refl _ _).alloc (Nat.le_refl _) _
    have Isg : Hid (InBoxF W6 w6.heap.size (.slice psg Z.ar.length csg) Z) := by show InBoxF _ _ _ _; rw [hW6]; exact inBoxF_made _ _ _ _
    have SG : Hid (SliceF w6 w5.heap.size (.slice psg Z.ar.length csg) Z.ar) := s6
    have PG : Hid (0 < Z.ar.length → ∀ g, (.slice psg Z.ar.length csg : Value).ownBlock = some g → g < w6.heap.size) := fun h g e => (SG.out.1.below_end h g e).2
    have Os_w6 : Hid (Same w0.heap.size W2 w6) := Os_w5.out.below hb6
    clear Os_w5
    have Ovx_w6 : Hid (Same W2.heap.size w3 w6) := Ovx_w5.out.below hb6
    clear Ovx_w5
    have Ovy_w6 : Hid (Same w3.heap.size w4 w6) := Ovy_w5.out.below hb6
    clear Ovy_w5
    have B_w6 : Hid (Below wu.heap.size wu w6) := B_w5.out.trans (hb6.mono B_w5.out.size)
    have z_w6 : w5.heap.size ≤ w6.heap.size := hb6.size
    have Og_w6 : Hid (Same w5.heap.size w6 w6) := Same.refl _ _
    have Os_W6 : Hid (Same w0.heap.size W2 W6) := Os_w6.out.below AW6
    clear Os_w6
    have Ovx_W6 : Hid (Same W2.heap.size w3 W6) := Ovx_w6.out.below AW6
    clear Ovx_w6
    have Ovy_W6 : Hid (Same w3.heap.size w4 W6) := Ovy_w6.out.below AW6
    clear Ovy_w6
    have Og_W6 : Hid (Same w5.heap.size w6 W6) := Og_w6.out.below AW6
    clear Og_w6
    have B_W6 : Hid (Below wu.heap.size wu W6) := B_w6.out.trans (AW6.mono B_w6.out.size)
    have z_W6 : w6.heap.size ≤ W6.heap.size := AW6.size
    have Ogb_W6 : Hid (Same w6.heap.size W6 W6) := Same.refl _ _
    clear AW6 hb6 s6 hW6
    go_upto_region 15 with fail
    rw [← HW6.out]
    clear HW6
    obtain ⟨u0, u1, u2, u3⟩ := InBoxF.same Iss.out Os_W6.out (by omega)
    obtain ⟨y0, y1, y2, y3⟩ := InBoxF.same Isg.out Ogb_W6.out (by omega)
    go_wp2_with fail
    refine (eqFO_any (.slice psg Z.ar.length csg) (.slice pss Z.ar.length css) Z _ _ _ (SG.out.same Og_W6.out) (SS.out.same Os_W6.out) (by omega)).mono ?_
    rintro e w7 ⟨rfl, hbw7⟩
    have Os_w7 : Hid (Same w0.heap.size W2 w7) := Os_W6.out.below hbw7
    clear Os_W6
    have Ovx_w7 : Hid (Same W2.heap.size w3 w7) := Ovx_W6.out.below hbw7
    clear Ovx_W6
    have Ovy_w7 : Hid (Same w3.heap.size w4 w7) := Ovy_W6.out.below hbw7
    clear Ovy_W6
    have Og_w7 : Hid (Same w5.heap.size w6 w7) := Og_W6.out.below hbw7
    clear Og_W6
    have Ogb_w7 : Hid (Same w6.heap.size W6 w7) := Ogb_W6.out.below hbw7
    clear Ogb_W6
    have B_w7 : Hid (Below wu.heap.size wu w7) := B_W6.out.trans (hbw7.mono B_W6.out.size)
    have z_w7 : W6.heap.size ≤ w7.heap.size := hbw7.size
    clear hbw7
    clear u0 u1 u2 u3 y0 y1 y2 y3
    go_wp2_with fail
    refine (KT.out _ B_w7.out).mono ?_
    rintro e w8 ⟨v8, rfl, s8, hb8⟩
    have S8 : Hid (SliceF w8 w7.heap.size v8 L) := s8
    have Os_w8 : Hid (Same w0.heap.size W2 w8) := Os_w7.out.below hb8
    clear Os_w7
    have Ovx_w8 : Hid (Same W2.heap.size w3 w8) := Ovx_w7.out.below hb8
    clear Ovx_w7
    have Ovy_w8 : Hid (Same w3.heap.size w4 w8) := Ovy_w7.out.below hb8
    clear Ovy_w7
    have Og_w8 : Hid (Same w5.heap.size w6 w8) := Og_w7.out.below hb8
    clear Og_w7
    have Ogb_w8 : Hid (Same w6.heap.size W6 w8) := Ogb_w7.out.below hb8
    clear Ogb_w7
    have B_w8 : Hid (Below wu.heap.size wu w8) := B_w7.out.trans (hb8.mono B_w7.out.size)
    have z_w8 : w7.heap.size ≤ w8.heap.size := hb8.size
    clear hb8 s8
    go_wp2_with fail
    refine (eqFrameS_any vx v8 L _ _ _ (Svx.out.same Ovx_w8.out) S8.out hl).mono ?_
    rintro e w9 ⟨rfl, hb9⟩
    have Os_w9 : Hid (Same w0.heap.size W2 w9) := Os_w8.out.below hb9
    clear Os_w8
    have Ovx_w9 : Hid (Same W2.heap.size w3 w9) := Ovx_w8.out.below hb9
    clear Ovx_w8
    have Ovy_w9 : Hid (Same w3.heap.size w4 w9) := Ovy_w8.out.below hb9
    clear Ovy_w8
    have Og_w9 : Hid (Same w5.heap.size w6 w9) := Og_w8.out.below hb9
    clear Og_w8
    have Ogb_w9 : Hid (Same w6.heap.size W6 w9) := Ogb_w8.out.below hb9
    clear Ogb_w8
    have B_w9 : Hid (Below wu.heap.size wu w9) := B_w8.out.trans (hb9.mono B_w8.out.size)
    have z_w9 : w8.heap.size ≤ w9.heap.size := hb9.size
    clear hb9 S8
    go_wp2_with fail
    refine (KR.out _ B_w9.out).mono ?_
    rintro e w10 ⟨v10, rfl, s10, hb10⟩
    have S10 : Hid (SliceS w10 w9.heap.size v10 n f) := s10
    have Os_w10 : Hid (Same w0.heap.size W2 w10) := Os_w9.out.below hb10
    clear Os_w9
    have Ovx_w10 : Hid (Same W2.heap.size w3 w10) := Ovx_w9.out.below hb10
    clear Ovx_w9
    have Ovy_w10 : Hid (Same w3.heap.size w4 w10) := Ovy_w9.out.below hb10
    clear Ovy_w9
    have Og_w10 : Hid (Same w5.heap.size w6 w10) := Og_w9.out.below hb10
    clear Og_w9
    have Ogb_w10 : Hid (Same w6.heap.size W6 w10) := Ogb_w9.out.below hb10
    clear Ogb_w9
    have B_w10 : Hid (Below wu.heap.size wu w10) := B_w9.out.trans (hb10.mono B_w9.out.size)
    have z_w10 : w9.heap.size ≤ w10.heap.size := hb10.size
    clear hb10 s10
    go_wp2_with fail
    refine (eqStringS_any vy v10 n _ _ f _ (Svy.out.same Ovy_w10.out) S10.out n1).mono ?_
    rintro e w11 ⟨rfl, hb11⟩
    have Os_w11 : Hid (Same w0.heap.size W2 w11) := Os_w10.out.below hb11
    clear Os_w10
    have Ovx_w11 : Hid (Same W2.heap.size w3 w11) := Ovx_w10.out.below hb11
    clear Ovx_w10
    have Ovy_w11 : Hid (Same w3.heap.size w4 w11) := Ovy_w10.out.below hb11
    clear Ovy_w10
    have Og_w11 : Hid (Same w5.heap.size w6 w11) := Og_w10.out.below hb11
    clear Og_w10
    have Ogb_w11 : Hid (Same w6.heap.size W6 w11) := Ogb_w10.out.below hb11
    clear Ogb_w10
    have B_w11 : Hid (Below wu.heap.size wu w11) := B_w10.out.trans (hb11.mono B_w10.out.size)
    have z_w11 : w10.heap.size ≤ w11.heap.size := hb11.size
    clear hb11 S10
    go_wp2_with fail
    refine (markF_off vx L W2.heap.size w3.heap.size w11 (Svx.out.same Ovx_w11.out) (by omega) Pvx.out hl).mono ?_
    rintro e w12 ⟨rfl, -, ho12⟩
    have Os_w12 : Hid (Same w0.heap.size W2 w12) := Os_w11.out.off ho12 (by omega)
    clear Os_w11
    have Ovy_w12 : Hid (Same w3.heap.size w4 w12) := Ovy_w11.out.off ho12 (by omega)
    clear Ovy_w11
    have Og_w12 : Hid (Same w5.heap.size w6 w12) := Og_w11.out.off ho12 (by omega)
    clear Og_w11
    have Ogb_w12 : Hid (Same w6.heap.size W6 w12) := Ogb_w11.out.off ho12 (by omega)
    clear Ogb_w11
    have B_w12 : Hid (Below wu.heap.size wu w12) := B_w11.out.trans (ho12.low (by omega) (by omega))
    have z_w12 : w11.heap.size ≤ w12.heap.size := ho12.size
    clear ho12 Ovx_w11 Svx Pvx
    go_wp2_with fail
    refine (markStr_off vy n w3.heap.size w4.heap.size (1 + L.length * 9) f w12 (Svy.out.same Ovy_w12.out) Pvy.out n1 (by omega) (by omega)).mono ?_
    rintro e w13 ⟨rfl, -, ho13⟩
    have Os_w13 : Hid (Same w0.heap.size W2 w13) := Os_w12.out.off ho13 (by omega)
    clear Os_w12
    have Og_w13 : Hid (Same w5.heap.size w6 w13) := Og_w12.out.off ho13 (by omega)
    clear Og_w12
    have Ogb_w13 : Hid (Same w6.heap.size W6 w13) := Ogb_w12.out.off ho13 (by omega)
    clear Ogb_w12
    have B_w13 : Hid (Below wu.heap.size wu w13) := B_w12.out.trans (ho13.low (by omega) (by omega))
    have z_w13 : w12.heap.size ≤ w13.heap.size := ho13.size
    clear ho13 Ovy_w12 Svy Pvy
    have hm0 : decide ((((1 + L.length * 9 + n : Nat) : Int)) < 0) = false := by rw [decide_eq_false_iff_not]; omega
    generalize ((1 + L.length * 9 + n : Nat) : Int) = mL at *
    obtain ⟨u0, u1, u2, u3⟩ := InBoxF.same Iss.out Os_w13.out (by omega)
    obtain ⟨y0, y1, y2, y3⟩ := InBoxF.same Isg.out Ogb_w13.out (by omega)
    go_wp2_with fail
    refine (eqFO_any (.slice psg Z.ar.length csg) (.slice pss Z.ar.length css) Z _ _ _ (SG.out.same Og_w13.out) (SS.out.same Os_w13.out) (by omega)).mono ?_
    rintro e w14 ⟨rfl, hbw14⟩
    have Os_w14 : Hid (Same w0.heap.size W2 w14) := Os_w13.out.below hbw14
    clear Os_w13
    have Og_w14 : Hid (Same w5.heap.size w6 w14) := Og_w13.out.below hbw14
    clear Og_w13
    have Ogb_w14 : Hid (Same w6.heap.size W6 w14) := Ogb_w13.out.below hbw14
    clear Ogb_w13
    have B_w14 : Hid (Below wu.heap.size wu w14) := B_w13.out.trans (hbw14.mono B_w13.out.size)
    have z_w14 : w13.heap.size ≤ w14.heap.size := hbw14.size
    clear hbw14
    clear u0 u1 u2 u3 y0 y1 y2 y3
    obtain ⟨y0, y1, y2, y3⟩ := InBoxF.same Isg.out Ogb_w14.out (by omega)
    go_wp2_with fail
    refine (markFO_off (.slice psg Z.ar.length csg) Z.id Z.co Z.ar w5.heap.size w6.heap.size w14 (SG.out.same Og_w14.out) (by omega) PG.out (by omega)).mono ?_
    rintro e w15 ⟨rfl, s15, ho15⟩
    clear y0 y1 y2 y3
    have Os_w15 : Hid (Same w0.heap.size W2 w15) := Os_w14.out.off ho15 (by omega)
    clear Os_w14
    have Ogb_w15 : Hid (Same w6.heap.size W6 w15) := Ogb_w14.out.off ho15 (by omega)
    clear Ogb_w14
    have B_w15 : Hid (Below wu.heap.size wu w15) := B_w14.out.trans (ho15.low (by omega) (by omega))
    have z_w15 : w14.heap.size ≤ w15.heap.size := ho15.size
    have S15 : Hid (SliceR w15 w5.heap.size 9 (.slice psg Z.ar.length csg) Z.ar.length (markFrC 1)) := s15
    have Om_w15 : Hid (Same w5.heap.size w15 w15) := Same.refl _ _
    clear ho15 s15 Og_w14 SG PG
    have KH : Hid (∀ W, Same w5.heap.size w15 W → Calls Tryd.prog 19 #[.agg #[.slice psg Z.ar.length csg, .int .i64 Z.id, .int .i64 Z.co], .int .i64 1] W fun e w' => e = .returned (.int .i64 ((1 + Z.ar.length * 9 : Nat) : Int)) ∧ Below W.heap.size W w') := fun W hb => heldFO_any (.slice psg Z.ar.length csg) Z.id Z.co Z.ar.length _ W (S15.out.same hb) (by omega)
    have hm1 : decide ((((1 + Z.ar.length * 9 : Nat) : Int)) < 0) = false := by rw [decide_eq_false_iff_not]; omega
    clear S15
    generalize ((1 + Z.ar.length * 9 : Nat) : Int) = mZ at *
    obtain ⟨y0, y1, y2, y3⟩ := InBoxF.same Isg.out Ogb_w15.out (by omega)
    go_wp2_with fail
    refine (KH.out _ Om_w15.out).mono ?_
    rintro e w16 ⟨rfl, hb16⟩
    have Os_w16 : Hid (Same w0.heap.size W2 w16) := Os_w15.out.below hb16
    clear Os_w15
    have Ogb_w16 : Hid (Same w6.heap.size W6 w16) := Ogb_w15.out.below hb16
    clear Ogb_w15
    have Om_w16 : Hid (Same w5.heap.size w15 w16) := Om_w15.out.below hb16
    clear Om_w15
    have B_w16 : Hid (Below wu.heap.size wu w16) := B_w15.out.trans (hb16.mono B_w15.out.size)
    have z_w16 : w15.heap.size ≤ w16.heap.size := hb16.size
    clear hb16 y0 y1 y2 y3
    go_upto_region 34 with fail
    have q_0 : World.cell? w16 ⟨w.heap.size, 0, none⟩ = some (.string sc) := ((bcell B_w16.out).1 _ _ zu).trans qu0
    have q_1 : World.cell? w16 ⟨w.heap.size, 1, none⟩ = some (.string ho) := ((bcell B_w16.out).1 _ _ zu).trans qu1
    have q_2 : World.cell? w16 ⟨w.heap.size, 2, none⟩ = some (.int .i64 po) := ((bcell B_w16.out).1 _ _ zu).trans qu2
    have q_3 : World.cell? w16 ⟨w.heap.size, 3, none⟩ = some (.string pt) := ((bcell B_w16.out).1 _ _ zu).trans qu3
    have z0 : w.heap.size < w16.heap.size := Nat.lt_of_lt_of_le zu B_w16.out.size
    rename_i K hK
    obtain ⟨tail, -⟩ : (∀ (b2 : Nat) (u18 u19 u20 u21 u22 u23 u24 u25 u26 u27 u28 u29 u30 u31 u32 u33 u34 u35 u36 u37 u38 u39 u40 u41 u42 u43 u44 u45 u46 u47 u48 u49 u50 u51 u52 u53 u54 u55 u56 u57 u58 u59 u60 u61 u62 u63 u64 u65 u66 u67 u68 u69 u70 u71 u72 u73 u74 u75 u76 u77 u78 u79 u80 u81 u82 u83 u84 u85 u86 u87 u88 u89 u90 u91 u92 u93 u94 u95 u96 u97 u98 u99 u100 u101 u102 u103 u104 u105 u106 u107 u108 u109 sh : Value) (W17 : World), w16.heap.size ≤ b2 → Hid (Below w16.heap.size w16 W17) → Hid (InBoxF W17 b2 sh Z) → Hid (SliceF W17 w16.heap.size sh Z.ar) → K { tmps := #[.slice a L.length cap, .slice ra n rcap, .int .i64 id, .agg #[.string sc, .string ho, .int .i64 po, .string pt], undef, undef, undef, .pointer (some ⟨w.heap.size, 0, none⟩), .bool false, .int .i64 r', .pointer (some ⟨bs, 0, none⟩), vx, vy, .pointer (some ⟨w6.heap.size, 0, none⟩), .int .i64 mL, .int .i64 mZ, .int .i64 mZ, .pointer (some ⟨b2, 0, none⟩), u18, u19, u20, u21, u22, u23, u24, u25, u26, u27, u28, u29, u30, u31, u32, u33, u34, u35, u36, u37, u38, u39, u40, u41, u42, u43, u44, u45, u46, u47, u48, u49, u50, u51, u52, u53, u54, u55, u56, u57, u58, u59, u60, u61, u62, u63, u64, u65, u66, u67, u68, u69, u70, u71, u72, u73, u74, u75, u76, u77, u78, u79, u80, u81, u82, u83, u84, u85, u86, u87, u88, u89, u90, u91, u92, u93, u94, u95, u96, u97, u98, u99, u100, u101, u102, u103, u104, u105, u106, u107, u108, u109], defers := [] } W17) ∧ True := by
      refine ⟨?_, trivial⟩
      intro b2 u18 u19 u20 u21 u22 u23 u24 u25 u26 u27 u28 u29 u30 u31 u32 u33 u34 u35 u36 u37 u38 u39 u40 u41 u42 u43 u44 u45 u46 u47 u48 u49 u50 u51 u52 u53 u54 u55 u56 u57 u58 u59 u60 u61 u62 u63 u64 u65 u66 u67 u68 u69 u70 u71 u72 u73 u74 u75 u76 u77 u78 u79 u80 u81 u82 u83 u84 u85 u86 u87 u88 u89 u90 u91 u92 u93 u94 u95 u96 u97 u98 u99 u100 u101 u102 u103 u104 u105 u106 u107 u108 u109 sh W17 hb2s E17 Ish SH
      obtain ⟨psh, csh, hvsh⟩ : ∃ p c, sh = .slice p Z.ar.length c := by obtain ⟨⟨p, cap, e, -⟩, -⟩ := SH.out; exact ⟨p, cap, e⟩
      subst hvsh
      have Os_W17 : Hid (Same w0.heap.size W2 W17) := Os_w16.out.below E17.out
      clear Os_w16
      have Ogb_W17 : Hid (Same w6.heap.size W6 W17) := Ogb_w16.out.below E17.out
      clear Ogb_w16
      have Om_W17 : Hid (Same w5.heap.size w15 W17) := Om_w16.out.below E17.out
      clear Om_w16
      have B_W17 : Hid (Below wu.heap.size wu W17) := B_w16.out.trans (E17.out.mono B_w16.out.size)
      have z_W17 : w16.heap.size ≤ W17.heap.size := E17.out.size
      clear E17
      refine hK _ _ ?_
      clear hK KT KR KU KI q_0 q_1 q_2 q_3
      obtain ⟨x0, x1, x2, x3⟩ := Ish.out
      obtain ⟨u0, u1, u2, u3⟩ := InBoxF.same Iss.out Os_W17.out (by omega)
      go_wp2_with fail
      refine (eqFO_any (.slice psh Z.ar.length csh) (.slice pss Z.ar.length css) Z _ _ _ SH.out (SS.out.same Os_W17.out) (by omega)).mono ?_
      rintro e w18 ⟨rfl, hbw18⟩
      have Os_w18 : Hid (Same w0.heap.size W2 w18) := Os_W17.out.below hbw18
      clear Os_W17
      have Ogb_w18 : Hid (Same w6.heap.size W6 w18) := Ogb_W17.out.below hbw18
      clear Ogb_W17
      have Om_w18 : Hid (Same w5.heap.size w15 w18) := Om_W17.out.below hbw18
      clear Om_W17
      have B_w18 : Hid (Below wu.heap.size wu w18) := B_W17.out.trans (hbw18.mono B_W17.out.size)
      have z_w18 : W17.heap.size ≤ w18.heap.size := hbw18.size
      clear hbw18
      clear x0 x1 x2 x3 u0 u1 u2 u3
      obtain ⟨y0, y1, y2, y3⟩ := InBoxF.same Isg.out Ogb_w18.out (by omega)
      go_wp2_with fail
      refine (KH.out _ Om_w18.out).mono ?_
      rintro e w19 ⟨rfl, hb19⟩
      go_wp2
      go_ret
      exact ⟨rfl, Bu.out.trans ((B_w18.out.trans (hb19.mono B_w18.out.size)).mono Bu.out.size)⟩
    clear hK
    refine wp_region_held_drew (S := (fun w' => w'.cell? ⟨w.heap.size, 0, none⟩ = some (.string sc) ∧ w'.cell? ⟨w.heap.size, 1, none⟩ = some (.string ho) ∧ w'.cell? ⟨w.heap.size, 2, none⟩ = some (.int .i64 po) ∧ w'.cell? ⟨w.heap.size, 3, none⟩ = some (.string pt))) (by kernel_rfl) ?_ (fun hH0 => ?_)
    · (try dsimp only)
      first | go_keep | (refine ⟨?_, ?_, ?_, ?_⟩ <;> assumption)
    have Er34d : Hid (Below w16.heap.size w16 w16.drew) := (Below.refl _ _).drew
    refine wpAnyH_take (i := 0) (oi := { dst := some 90, op := Op.move (Operand.tmp 0), type := 22, pos := "exact.go:3201", after := #[], guard := none }) (v := ?vr341) rfl (by kernel_rfl) (by kernel_rfl) (by kernel_rfl) (fun _ _ _ h => h) (Or.inl ⟨by rfl, ?hyr341⟩) (by assumption) ?restr341
    case hyr341 =>
      intro w hSw
      (try dsimp only at hSw)
      go_simp
      try with_reducible rfl
    try simp only [Act.put, List.setIfInBounds_toArray, List.set_cons_zero, List.set_cons_succ]
    refine wpAnyH_take (i := 2) (oi := { dst := some 92, op := Op.move (Operand.tmp 1), type := 23, pos := "exact.go:3201", after := #[], guard := none }) (v := ?vr342) rfl (by kernel_rfl) (by kernel_rfl) (by kernel_rfl) (fun _ _ _ h => h) (Or.inl ⟨by rfl, ?hyr342⟩) (by assumption) ?restr342
    case hyr342 =>
      intro w hSw
      (try dsimp only at hSw)
      go_simp
      try with_reducible rfl
    try simp only [Act.put, List.setIfInBounds_toArray, List.set_cons_zero, List.set_cons_succ]
    refine wpAnyH_take (i := 4) (oi := { dst := some 94, op := Op.move (Operand.tmp 2), type := 2, pos := "exact.go:3201", after := #[], guard := none }) (v := ?vr343) rfl (by kernel_rfl) (by kernel_rfl) (by kernel_rfl) (fun _ _ _ h => h) (Or.inl ⟨by rfl, ?hyr343⟩) (by assumption) ?restr343
    case hyr343 =>
      intro w hSw
      (try dsimp only at hSw)
      go_simp
      try with_reducible rfl
    try simp only [Act.put, List.setIfInBounds_toArray, List.set_cons_zero, List.set_cons_succ]
    refine wpAnyH_take (i := 5) (oi := { dst := some 95, op := Op.load 25 (Operand.tmp 7), type := 25, pos := "exact.go:3201", after := #[], guard := none }) (v := ?vr344) rfl (by kernel_rfl) (by kernel_rfl) (by kernel_rfl) (fun _ _ _ h => h) (Or.inl ⟨by rfl, ?hyr344⟩) (by assumption) ?restr344
    case hyr344 =>
      intro w hSw
      (try dsimp only at hSw)
      go_simp
      try with_reducible rfl
    try simp only [Act.put, List.setIfInBounds_toArray, List.set_cons_zero, List.set_cons_succ]
    refine wpAnyH_ready (rs := [1, 8]) (by kernel_rfl) (by simp) ?_
    refine AllReadyH.cons (o := { dst := some 91, op := Op.call { callee := Callee.value (Operand.func 9), args := #[Operand.tmp 90], argTypes := #[22] }, type := 29, pos := "exact.go:3201", after := #[{ on := 0, ground := Ground.data }], guard := none }) rfl (fun K hK => ?_) (AllReadyH.cons (o := { dst := some 17, op := Op.alloc 31, type := 0, pos := "exact.go:3201", after := #[], guard := none }) rfl (fun K hK => ?_) AllReadyH.nil)
    · skip
      go_simp
      refine (KT.out _ (B_w16.out.trans (Er34d.out.mono B_w16.out.size))).mono ?_
      rintro e wr34_1 ⟨v1, rfl, s', hb'⟩
      have hbwr34_1 : Below (World.heap w16.drew).size w16.drew wr34_1 := hb'
      have Ewr34_1 : Hid (Below w16.heap.size w16 wr34_1) := Er34d.out.trans (hbwr34_1.mono Er34d.out.size)
      have Qwr34_1_0 := ((bcell Ewr34_1.out).1 _ _ z0).trans q_0
      have Qwr34_1_1 := ((bcell Ewr34_1.out).1 _ _ z0).trans q_1
      have Qwr34_1_2 := ((bcell Ewr34_1.out).1 _ _ z0).trans q_2
      have Qwr34_1_3 := ((bcell Ewr34_1.out).1 _ _ z0).trans q_3
      have ywr34_1 := hbwr34_1.size
      have SAwr34_1 : Hid (SliceF wr34_1 (World.heap w16.drew).size v1 L) := s'
      clear s' hb' hbwr34_1
      try (go_wp2_with fail)
      refine hK.out _ _ ?_ (fun hH1 => ?_)
      · (try dsimp only)
        first | go_keep | (refine ⟨?_, ?_, ?_, ?_⟩ <;> assumption)
      clear hK K hH0
      try simp only [Act.put, List.setIfInBounds_toArray, List.set_cons_zero, List.set_cons_succ]
      refine wpAnyH_ready (rs := [3, 8]) (by kernel_rfl) (by simp) ?_
      refine AllReadyH.cons (o := { dst := some 93, op := Op.call { callee := Callee.value (Operand.func 10), args := #[Operand.tmp 92], argTypes := #[23] }, type := 23, pos := "exact.go:3201", after := #[{ on := 2, ground := Ground.data }, { on := 1, ground := Ground.chain }], guard := none }) rfl (fun K hK => ?_) (AllReadyH.cons (o := { dst := some 17, op := Op.alloc 31, type := 0, pos := "exact.go:3201", after := #[], guard := none }) rfl (fun K hK => ?_) AllReadyH.nil)
      · skip
        go_simp
        refine (KR.out _ (B_w16.out.trans (Ewr34_1.out.mono B_w16.out.size))).mono ?_
        rintro e wr34_2 ⟨v2, rfl, s', hb'⟩
        have hbwr34_2 : Below (World.heap wr34_1).size wr34_1 wr34_2 := hb'
        have Ewr34_2 : Hid (Below w16.heap.size w16 wr34_2) := Ewr34_1.out.trans (hbwr34_2.mono Ewr34_1.out.size)
        have Qwr34_2_0 := ((bcell Ewr34_2.out).1 _ _ z0).trans q_0
        have Qwr34_2_1 := ((bcell Ewr34_2.out).1 _ _ z0).trans q_1
        have Qwr34_2_2 := ((bcell Ewr34_2.out).1 _ _ z0).trans q_2
        have Qwr34_2_3 := ((bcell Ewr34_2.out).1 _ _ z0).trans q_3
        have SAwr34_2 : Hid (SliceF wr34_2 (World.heap w16.drew).size v1 L) := SAwr34_1.out.below hbwr34_2
        have ywr34_2 := hbwr34_2.size
        have SBwr34_2 : Hid (SliceS wr34_2 (World.heap wr34_1).size v2 n f) := s'
        clear s' hb' hbwr34_2
        try (go_wp2_with fail)
        refine hK.out _ _ ?_ (fun hH2 => ?_)
        · (try dsimp only)
          first | go_keep | (refine ⟨?_, ?_, ?_, ?_⟩ <;> assumption)
        clear hK K hH1
        try simp only [Act.put, List.setIfInBounds_toArray, List.set_cons_zero, List.set_cons_succ]
        refine wpAnyH_ready (rs := [6, 8]) (by kernel_rfl) (by simp) ?_
        refine AllReadyH.cons (o := { dst := some 96, op := Op.call { callee := Callee.value (Operand.func 11), args := #[Operand.tmp 95], argTypes := #[25] }, type := 35, pos := "exact.go:3201", after := #[{ on := 5, ground := Ground.data }, { on := 3, ground := Ground.chain }], guard := none }) rfl (fun K hK => ?_) (AllReadyH.cons (o := { dst := some 17, op := Op.alloc 31, type := 0, pos := "exact.go:3201", after := #[], guard := none }) rfl (fun K hK => ?_) AllReadyH.nil)
        · skip
          go_simp
          refine (KU.out _).mono ?_
          rintro e wr34_3 ⟨rfl, hb'⟩
          have hbwr34_3 : Below (World.heap wr34_2).size wr34_2 wr34_3 := hb'
          have Ewr34_3 : Hid (Below w16.heap.size w16 wr34_3) := Ewr34_2.out.trans (hbwr34_3.mono Ewr34_2.out.size)
          have Qwr34_3_0 := ((bcell Ewr34_3.out).1 _ _ z0).trans q_0
          have Qwr34_3_1 := ((bcell Ewr34_3.out).1 _ _ z0).trans q_1
          have Qwr34_3_2 := ((bcell Ewr34_3.out).1 _ _ z0).trans q_2
          have Qwr34_3_3 := ((bcell Ewr34_3.out).1 _ _ z0).trans q_3
          have SAwr34_3 : Hid (SliceF wr34_3 (World.heap w16.drew).size v1 L) := SAwr34_2.out.below hbwr34_3
          have SBwr34_3 : Hid (SliceS wr34_3 (World.heap wr34_1).size v2 n f) := SBwr34_2.out.below hbwr34_3
          have ywr34_3 := hbwr34_3.size
          clear hb' hbwr34_3
          try (go_wp2_with fail)
          refine hK.out _ _ ?_ (fun hH3 => ?_)
          · (try dsimp only)
            first | go_keep | (refine ⟨?_, ?_, ?_, ?_⟩ <;> assumption)
          clear hK K hH2
          try simp only [Act.put, List.setIfInBounds_toArray, List.set_cons_zero, List.set_cons_succ]
          refine wpAnyH_ready (rs := [7, 8]) (by kernel_rfl) (by simp) ?_
          refine AllReadyH.cons (o := { dst := some 97, op := Op.call { callee := Callee.value (Operand.func 12), args := #[Operand.tmp 91, Operand.tmp 93, Operand.tmp 94, Operand.tmp 96], argTypes := #[29, 23, 2, 35] }, type := 31, pos := "exact.go:3201", after := #[{ on := 1, ground := Ground.data }, { on := 3, ground := Ground.data }, { on := 4, ground := Ground.data }, { on := 6, ground := Ground.data }, { on := 6, ground := Ground.chain }], guard := none }) rfl (fun K hK => ?_) (AllReadyH.cons (o := { dst := some 17, op := Op.alloc 31, type := 0, pos := "exact.go:3201", after := #[], guard := none }) rfl (fun K hK => ?_) AllReadyH.nil)
          · skip
            go_simp
            refine (KI.out _ _ _ _ _ (B_w16.out.trans (Ewr34_3.out.mono B_w16.out.size)) SAwr34_3.out SBwr34_3.out).mono ?_
            rintro e wr34_4 ⟨vx', rfl, ⟨sx, rfl, sx1⟩, hb'⟩
            obtain ⟨psx, csx, hsx⟩ : ∃ p c, sx = .slice p Z.ar.length c := by obtain ⟨⟨p, cap, e, -⟩, -⟩ := sx1; exact ⟨p, cap, e⟩
            subst hsx
            have hbwr34_4 : Below (World.heap wr34_3).size wr34_3 wr34_4 := hb'
            have Ewr34_4 : Hid (Below w16.heap.size w16 wr34_4) := Ewr34_3.out.trans (hbwr34_4.mono Ewr34_3.out.size)
            have Qwr34_4_0 := ((bcell Ewr34_4.out).1 _ _ z0).trans q_0
            have Qwr34_4_1 := ((bcell Ewr34_4.out).1 _ _ z0).trans q_1
            have Qwr34_4_2 := ((bcell Ewr34_4.out).1 _ _ z0).trans q_2
            have Qwr34_4_3 := ((bcell Ewr34_4.out).1 _ _ z0).trans q_3
            have SAwr34_4 : Hid (SliceF wr34_4 (World.heap w16.drew).size v1 L) := SAwr34_3.out.below hbwr34_4
            have SBwr34_4 : Hid (SliceS wr34_4 (World.heap wr34_1).size v2 n f) := SBwr34_3.out.below hbwr34_4
            have ywr34_4 := hbwr34_4.size
            have SMwr34_4 : Hid (SliceF wr34_4 w16.heap.size (.slice psx Z.ar.length csx) Z.ar) := sx1.mono Ewr34_3.out.size
            clear sx1 hb' hbwr34_4
            try (go_wp2_with fail)
            refine hK.out _ _ ?_ (fun hH4 => ?_)
            · (try dsimp only)
              first | go_keep | (refine ⟨?_, ?_, ?_, ?_⟩ <;> assumption)
            clear hK K hH3
            try simp only [Act.put, List.setIfInBounds_toArray, List.set_cons_zero, List.set_cons_succ]
            refine wpAnyH_ready (rs := [8]) (by kernel_rfl) (by simp) ?_
            refine AllReadyH.cons (o := { dst := some 17, op := Op.alloc 31, type := 0, pos := "exact.go:3201", after := #[], guard := none }) rfl (fun K hK => ?_) AllReadyH.nil
            · skip
              obtain ⟨wr34_5, hwr34_5⟩ : ∃ W, W = World.alloc wr34_4 (.cells #[.slice none 0 0, .int .i64 0, .int .i64 0] 31) := ⟨_, rfl⟩
              have Hwr34_5 : Hid (wr34_5 = World.alloc wr34_4 (.cells #[.slice none 0 0, .int .i64 0, .int .i64 0] 31)) := hwr34_5
              have hbwr34_5 : Below (World.heap wr34_4).size wr34_4 wr34_5 := by rw [hwr34_5]; exact (Below.refl _ _).alloc (Nat.le_refl _) _
              have Ewr34_5 : Hid (Below w16.heap.size w16 wr34_5) := Ewr34_4.out.trans (hbwr34_5.mono Ewr34_4.out.size)
              have Qwr34_5_0 := ((bcell Ewr34_5.out).1 _ _ z0).trans q_0
              have Qwr34_5_1 := ((bcell Ewr34_5.out).1 _ _ z0).trans q_1
              have Qwr34_5_2 := ((bcell Ewr34_5.out).1 _ _ z0).trans q_2
              have Qwr34_5_3 := ((bcell Ewr34_5.out).1 _ _ z0).trans q_3
              have SAwr34_5 : Hid (SliceF wr34_5 (World.heap w16.drew).size v1 L) := SAwr34_4.out.below hbwr34_5
              have SBwr34_5 : Hid (SliceS wr34_5 (World.heap wr34_1).size v2 n f) := SBwr34_4.out.below hbwr34_5
              have SMwr34_5 : Hid (SliceF wr34_5 w16.heap.size (.slice psx Z.ar.length csx) Z.ar) := SMwr34_4.out.below hbwr34_5
              have ywr34_5 := hbwr34_5.size
              obtain ⟨bwr34_5, hqwr34_5⟩ : ∃ b, b = (World.heap wr34_4).size := ⟨_, rfl⟩
              have Hqwr34_5 : Hid (bwr34_5 = (World.heap wr34_4).size) := hqwr34_5
              have Xwr34_5 : Hid (BoxF wr34_5 bwr34_5) := by show BoxF _ _; rw [hwr34_5, hqwr34_5]; exact boxF_made _ _
              have gwr34_5 : bwr34_5 < wr34_5.heap.size := by rw [hwr34_5, hqwr34_5]; simp
              have ewr34_5 : w16.heap.size ≤ bwr34_5 := by rw [hqwr34_5]; exact Ewr34_4.out.size
              have PN : Hid (0 < Z.ar.length → ∃ g, (Value.slice psx Z.ar.length csx).ownBlock = some g ∧ g ≠ bwr34_5) := fun h => by
                obtain ⟨g, e, -, h2⟩ := SMwr34_4.out.1.place h
                exact ⟨g, e, by rw [hqwr34_5]; exact Nat.ne_of_lt h2⟩
              clear hwr34_5 hbwr34_5 hqwr34_5
              go_simp
              rw [← Hwr34_5.out, ← Hqwr34_5.out]
              clear Hwr34_5 Hqwr34_5
              refine hK.out _ _ ?_ (fun hH5 => ?_)
              · (try dsimp only)
                first | go_keep | (refine ⟨?_, ?_, ?_, ?_⟩ <;> assumption)
              clear hK K hH4
              try simp only [Act.put, List.setIfInBounds_toArray, List.set_cons_zero, List.set_cons_succ]
              refine wpAnyH_ready (rs := [9]) (by kernel_rfl) (by simp) ?_
              refine AllReadyH.cons (o := { dst := none, op := Op.store 31 (Operand.tmp 17) (Operand.tmp 97), type := 0, pos := "exact.go:3201", after := #[{ on := 8, ground := Ground.data }, { on := 7, ground := Ground.data }, { on := 7, ground := Ground.chain }, { on := 0, ground := Ground.phase }, { on := 1, ground := Ground.phase }, { on := 2, ground := Ground.phase }, { on := 3, ground := Ground.phase }, { on := 4, ground := Ground.phase }, { on := 5, ground := Ground.phase }, { on := 6, ground := Ground.phase }, { on := 7, ground := Ground.phase }, { on := 8, ground := Ground.phase }], guard := none }) rfl (fun K hK => ?_) AllReadyH.nil
              · skip
                obtain ⟨x0, x1, x2, f0, f1, f2, hlt⟩ := Xwr34_5.out
                have hne : ¬ w.heap.size = bwr34_5 := by have := z0; have := ewr34_5; omega
                obtain ⟨wr34_6, hwr34_6⟩ : ∃ W, W = ((World.setCell wr34_5 ⟨bwr34_5, 0, none⟩ (.slice psx Z.ar.length csx)).setCell ⟨bwr34_5, 1, none⟩ (.int .i64 Z.id)).setCell ⟨bwr34_5, 2, none⟩ (.int .i64 Z.co) := ⟨_, rfl⟩
                have Hwr34_6 : Hid (wr34_6 = ((World.setCell wr34_5 ⟨bwr34_5, 0, none⟩ (.slice psx Z.ar.length csx)).setCell ⟨bwr34_5, 1, none⟩ (.int .i64 Z.id)).setCell ⟨bwr34_5, 2, none⟩ (.int .i64 Z.co)) := hwr34_6
                have Ewr34_6 : Hid (Below w16.heap.size w16 wr34_6) := by show Below _ _ _; rw [hwr34_6]; exact Ewr34_5.out.trans ((store3F_below (Below.refl bwr34_5 wr34_5)).mono ewr34_5)
                have Qwr34_6_0 := ((bcell Ewr34_6.out).1 _ _ z0).trans q_0
                have Qwr34_6_1 := ((bcell Ewr34_6.out).1 _ _ z0).trans q_1
                have Qwr34_6_2 := ((bcell Ewr34_6.out).1 _ _ z0).trans q_2
                have Qwr34_6_3 := ((bcell Ewr34_6.out).1 _ _ z0).trans q_3
                have Iwr34_6 : Hid (InBoxF wr34_6 bwr34_5 (.slice psx Z.ar.length csx) Z) := by show InBoxF _ _ _ _; rw [hwr34_6]; exact inBoxF_stored Xwr34_5.out
                have SMwr34_6 : Hid (SliceF wr34_6 w16.heap.size (.slice psx Z.ar.length csx) Z.ar) := by show SliceF _ _ _ _; rw [hwr34_6]; exact keep_cell (keep_cell (keep_cell SMwr34_5.out PN.out) PN.out) PN.out
                have e_wr34_6 := ewr34_5
                clear hwr34_6
                go_simp
                rw [← Hwr34_6.out]
                clear Hwr34_6
                refine hK.out _ _ ?_ (fun hH6 => ?_)
                · (try dsimp only)
                  first | go_keep | (refine ⟨?_, ?_, ?_, ?_⟩ <;> assumption)
                clear hK K hH5
                try simp only [Act.put, List.setIfInBounds_toArray, List.set_cons_zero, List.set_cons_succ]
                refine wpAnyH_done (by kernel_rfl) ?_ _
                exact tail bwr34_5 _ _ _ _ _ _ _ _ _ _ _ _ _ _ _ _ _ _ _ _ _ _ _ _ _ _ _ _ _ _ _ _ _ _ _ _ _ _ _ _ _ _ _ _ _ _ _ _ _ _ _ _ _ _ _ _ _ _ _ _ _ _ _ _ _ _ _ _ _ _ _ _ _ _ _ _ _ _ _ _ _ _ _ _ _ _ _ _ _ _ _ _ _ wr34_6 e_wr34_6 Ewr34_6 Iwr34_6 SMwr34_6
          · skip
            obtain ⟨wr34_7, hwr34_7⟩ : ∃ W, W = World.alloc wr34_3 (.cells #[.slice none 0 0, .int .i64 0, .int .i64 0] 31) := ⟨_, rfl⟩
            have Hwr34_7 : Hid (wr34_7 = World.alloc wr34_3 (.cells #[.slice none 0 0, .int .i64 0, .int .i64 0] 31)) := hwr34_7
            have hbwr34_7 : Below (World.heap wr34_3).size wr34_3 wr34_7 := by rw [hwr34_7]; exact (Below.refl _ _).alloc (Nat.le_refl _) _
            have Ewr34_7 : Hid (Below w16.heap.size w16 wr34_7) := Ewr34_3.out.trans (hbwr34_7.mono Ewr34_3.out.size)
            have Qwr34_7_0 := ((bcell Ewr34_7.out).1 _ _ z0).trans q_0
            have Qwr34_7_1 := ((bcell Ewr34_7.out).1 _ _ z0).trans q_1
            have Qwr34_7_2 := ((bcell Ewr34_7.out).1 _ _ z0).trans q_2
            have Qwr34_7_3 := ((bcell Ewr34_7.out).1 _ _ z0).trans q_3
            have SAwr34_7 : Hid (SliceF wr34_7 (World.heap w16.drew).size v1 L) := SAwr34_3.out.below hbwr34_7
            have SBwr34_7 : Hid (SliceS wr34_7 (World.heap wr34_1).size v2 n f) := SBwr34_3.out.below hbwr34_7
            have ywr34_7 := hbwr34_7.size
            obtain ⟨bwr34_7, hqwr34_7⟩ : ∃ b, b = (World.heap wr34_3).size := ⟨_, rfl⟩
            have Hqwr34_7 : Hid (bwr34_7 = (World.heap wr34_3).size) := hqwr34_7
            have Xwr34_7 : Hid (BoxF wr34_7 bwr34_7) := by show BoxF _ _; rw [hwr34_7, hqwr34_7]; exact boxF_made _ _
            have gwr34_7 : bwr34_7 < wr34_7.heap.size := by rw [hwr34_7, hqwr34_7]; simp
            have ewr34_7 : w16.heap.size ≤ bwr34_7 := by rw [hqwr34_7]; exact Ewr34_3.out.size
            clear hwr34_7 hbwr34_7 hqwr34_7
            go_simp
            rw [← Hwr34_7.out, ← Hqwr34_7.out]
            clear Hwr34_7 Hqwr34_7
            refine hK.out _ _ ?_ (fun hH4 => ?_)
            · (try dsimp only)
              first | go_keep | (refine ⟨?_, ?_, ?_, ?_⟩ <;> assumption)
            clear hK K hH3
            try simp only [Act.put, List.setIfInBounds_toArray, List.set_cons_zero, List.set_cons_succ]
            refine wpAnyH_ready (rs := [7]) (by kernel_rfl) (by simp) ?_
            refine AllReadyH.cons (o := { dst := some 97, op := Op.call { callee := Callee.value (Operand.func 12), args := #[Operand.tmp 91, Operand.tmp 93, Operand.tmp 94, Operand.tmp 96], argTypes := #[29, 23, 2, 35] }, type := 31, pos := "exact.go:3201", after := #[{ on := 1, ground := Ground.data }, { on := 3, ground := Ground.data }, { on := 4, ground := Ground.data }, { on := 6, ground := Ground.data }, { on := 6, ground := Ground.chain }], guard := none }) rfl (fun K hK => ?_) AllReadyH.nil
            · skip
              go_simp
              refine (KI.out _ _ _ _ _ (B_w16.out.trans (Ewr34_7.out.mono B_w16.out.size)) SAwr34_7.out SBwr34_7.out).mono ?_
              rintro e wr34_8 ⟨vx', rfl, ⟨sx, rfl, sx1⟩, hb'⟩
              obtain ⟨psx, csx, hsx⟩ : ∃ p c, sx = .slice p Z.ar.length c := by obtain ⟨⟨p, cap, e, -⟩, -⟩ := sx1; exact ⟨p, cap, e⟩
              subst hsx
              have hbwr34_8 : Below (World.heap wr34_7).size wr34_7 wr34_8 := hb'
              have Ewr34_8 : Hid (Below w16.heap.size w16 wr34_8) := Ewr34_7.out.trans (hbwr34_8.mono Ewr34_7.out.size)
              have Qwr34_8_0 := ((bcell Ewr34_8.out).1 _ _ z0).trans q_0
              have Qwr34_8_1 := ((bcell Ewr34_8.out).1 _ _ z0).trans q_1
              have Qwr34_8_2 := ((bcell Ewr34_8.out).1 _ _ z0).trans q_2
              have Qwr34_8_3 := ((bcell Ewr34_8.out).1 _ _ z0).trans q_3
              have SAwr34_8 : Hid (SliceF wr34_8 (World.heap w16.drew).size v1 L) := SAwr34_7.out.below hbwr34_8
              have SBwr34_8 : Hid (SliceS wr34_8 (World.heap wr34_1).size v2 n f) := SBwr34_7.out.below hbwr34_8
              have Xwr34_8 : Hid (BoxF wr34_8 bwr34_7) := Xwr34_7.out.below hbwr34_8
              have ywr34_8 := hbwr34_8.size
              have SMwr34_8 : Hid (SliceF wr34_8 w16.heap.size (.slice psx Z.ar.length csx) Z.ar) := sx1.mono Ewr34_7.out.size
              have PN : Hid (0 < Z.ar.length → ∃ g, (Value.slice psx Z.ar.length csx).ownBlock = some g ∧ g ≠ bwr34_7) := fun h => by
                obtain ⟨g, e, h1, -⟩ := sx1.1.place h
                exact ⟨g, e, by have := Xwr34_7.out.lt; omega⟩
              clear sx1 hb' hbwr34_8
              try (go_wp2_with fail)
              refine hK.out _ _ ?_ (fun hH5 => ?_)
              · (try dsimp only)
                first | go_keep | (refine ⟨?_, ?_, ?_, ?_⟩ <;> assumption)
              clear hK K hH4
              try simp only [Act.put, List.setIfInBounds_toArray, List.set_cons_zero, List.set_cons_succ]
              refine wpAnyH_ready (rs := [9]) (by kernel_rfl) (by simp) ?_
              refine AllReadyH.cons (o := { dst := none, op := Op.store 31 (Operand.tmp 17) (Operand.tmp 97), type := 0, pos := "exact.go:3201", after := #[{ on := 8, ground := Ground.data }, { on := 7, ground := Ground.data }, { on := 7, ground := Ground.chain }, { on := 0, ground := Ground.phase }, { on := 1, ground := Ground.phase }, { on := 2, ground := Ground.phase }, { on := 3, ground := Ground.phase }, { on := 4, ground := Ground.phase }, { on := 5, ground := Ground.phase }, { on := 6, ground := Ground.phase }, { on := 7, ground := Ground.phase }, { on := 8, ground := Ground.phase }], guard := none }) rfl (fun K hK => ?_) AllReadyH.nil
              · skip
                obtain ⟨x0, x1, x2, f0, f1, f2, hlt⟩ := Xwr34_8.out
                have hne : ¬ w.heap.size = bwr34_7 := by have := z0; have := ewr34_7; omega
                obtain ⟨wr34_9, hwr34_9⟩ : ∃ W, W = ((World.setCell wr34_8 ⟨bwr34_7, 0, none⟩ (.slice psx Z.ar.length csx)).setCell ⟨bwr34_7, 1, none⟩ (.int .i64 Z.id)).setCell ⟨bwr34_7, 2, none⟩ (.int .i64 Z.co) := ⟨_, rfl⟩
                have Hwr34_9 : Hid (wr34_9 = ((World.setCell wr34_8 ⟨bwr34_7, 0, none⟩ (.slice psx Z.ar.length csx)).setCell ⟨bwr34_7, 1, none⟩ (.int .i64 Z.id)).setCell ⟨bwr34_7, 2, none⟩ (.int .i64 Z.co)) := hwr34_9
                have Ewr34_9 : Hid (Below w16.heap.size w16 wr34_9) := by show Below _ _ _; rw [hwr34_9]; exact Ewr34_8.out.trans ((store3F_below (Below.refl bwr34_7 wr34_8)).mono ewr34_7)
                have Qwr34_9_0 := ((bcell Ewr34_9.out).1 _ _ z0).trans q_0
                have Qwr34_9_1 := ((bcell Ewr34_9.out).1 _ _ z0).trans q_1
                have Qwr34_9_2 := ((bcell Ewr34_9.out).1 _ _ z0).trans q_2
                have Qwr34_9_3 := ((bcell Ewr34_9.out).1 _ _ z0).trans q_3
                have Iwr34_9 : Hid (InBoxF wr34_9 bwr34_7 (.slice psx Z.ar.length csx) Z) := by show InBoxF _ _ _ _; rw [hwr34_9]; exact inBoxF_stored Xwr34_8.out
                have SMwr34_9 : Hid (SliceF wr34_9 w16.heap.size (.slice psx Z.ar.length csx) Z.ar) := by show SliceF _ _ _ _; rw [hwr34_9]; exact keep_cell (keep_cell (keep_cell SMwr34_8.out PN.out) PN.out) PN.out
                have e_wr34_9 := ewr34_7
                clear hwr34_9
                go_simp
                rw [← Hwr34_9.out]
                clear Hwr34_9
                refine hK.out _ _ ?_ (fun hH6 => ?_)
                · (try dsimp only)
                  first | go_keep | (refine ⟨?_, ?_, ?_, ?_⟩ <;> assumption)
                clear hK K hH5
                try simp only [Act.put, List.setIfInBounds_toArray, List.set_cons_zero, List.set_cons_succ]
                refine wpAnyH_done (by kernel_rfl) ?_ _
                exact tail bwr34_7 _ _ _ _ _ _ _ _ _ _ _ _ _ _ _ _ _ _ _ _ _ _ _ _ _ _ _ _ _ _ _ _ _ _ _ _ _ _ _ _ _ _ _ _ _ _ _ _ _ _ _ _ _ _ _ _ _ _ _ _ _ _ _ _ _ _ _ _ _ _ _ _ _ _ _ _ _ _ _ _ _ _ _ _ _ _ _ _ _ _ _ _ _ wr34_9 e_wr34_9 Ewr34_9 Iwr34_9 SMwr34_9
        · skip
          obtain ⟨wr34_10, hwr34_10⟩ : ∃ W, W = World.alloc wr34_2 (.cells #[.slice none 0 0, .int .i64 0, .int .i64 0] 31) := ⟨_, rfl⟩
          have Hwr34_10 : Hid (wr34_10 = World.alloc wr34_2 (.cells #[.slice none 0 0, .int .i64 0, .int .i64 0] 31)) := hwr34_10
          have hbwr34_10 : Below (World.heap wr34_2).size wr34_2 wr34_10 := by rw [hwr34_10]; exact (Below.refl _ _).alloc (Nat.le_refl _) _
          have Ewr34_10 : Hid (Below w16.heap.size w16 wr34_10) := Ewr34_2.out.trans (hbwr34_10.mono Ewr34_2.out.size)
          have Qwr34_10_0 := ((bcell Ewr34_10.out).1 _ _ z0).trans q_0
          have Qwr34_10_1 := ((bcell Ewr34_10.out).1 _ _ z0).trans q_1
          have Qwr34_10_2 := ((bcell Ewr34_10.out).1 _ _ z0).trans q_2
          have Qwr34_10_3 := ((bcell Ewr34_10.out).1 _ _ z0).trans q_3
          have SAwr34_10 : Hid (SliceF wr34_10 (World.heap w16.drew).size v1 L) := SAwr34_2.out.below hbwr34_10
          have SBwr34_10 : Hid (SliceS wr34_10 (World.heap wr34_1).size v2 n f) := SBwr34_2.out.below hbwr34_10
          have ywr34_10 := hbwr34_10.size
          obtain ⟨bwr34_10, hqwr34_10⟩ : ∃ b, b = (World.heap wr34_2).size := ⟨_, rfl⟩
          have Hqwr34_10 : Hid (bwr34_10 = (World.heap wr34_2).size) := hqwr34_10
          have Xwr34_10 : Hid (BoxF wr34_10 bwr34_10) := by show BoxF _ _; rw [hwr34_10, hqwr34_10]; exact boxF_made _ _
          have gwr34_10 : bwr34_10 < wr34_10.heap.size := by rw [hwr34_10, hqwr34_10]; simp
          have ewr34_10 : w16.heap.size ≤ bwr34_10 := by rw [hqwr34_10]; exact Ewr34_2.out.size
          clear hwr34_10 hbwr34_10 hqwr34_10
          go_simp
          rw [← Hwr34_10.out, ← Hqwr34_10.out]
          clear Hwr34_10 Hqwr34_10
          refine hK.out _ _ ?_ (fun hH3 => ?_)
          · (try dsimp only)
            first | go_keep | (refine ⟨?_, ?_, ?_, ?_⟩ <;> assumption)
          clear hK K hH2
          try simp only [Act.put, List.setIfInBounds_toArray, List.set_cons_zero, List.set_cons_succ]
          refine wpAnyH_ready (rs := [6]) (by kernel_rfl) (by simp) ?_
          refine AllReadyH.cons (o := { dst := some 96, op := Op.call { callee := Callee.value (Operand.func 11), args := #[Operand.tmp 95], argTypes := #[25] }, type := 35, pos := "exact.go:3201", after := #[{ on := 5, ground := Ground.data }, { on := 3, ground := Ground.chain }], guard := none }) rfl (fun K hK => ?_) AllReadyH.nil
          · skip
            go_simp
            refine (KU.out _).mono ?_
            rintro e wr34_11 ⟨rfl, hb'⟩
            have hbwr34_11 : Below (World.heap wr34_10).size wr34_10 wr34_11 := hb'
            have Ewr34_11 : Hid (Below w16.heap.size w16 wr34_11) := Ewr34_10.out.trans (hbwr34_11.mono Ewr34_10.out.size)
            have Qwr34_11_0 := ((bcell Ewr34_11.out).1 _ _ z0).trans q_0
            have Qwr34_11_1 := ((bcell Ewr34_11.out).1 _ _ z0).trans q_1
            have Qwr34_11_2 := ((bcell Ewr34_11.out).1 _ _ z0).trans q_2
            have Qwr34_11_3 := ((bcell Ewr34_11.out).1 _ _ z0).trans q_3
            have SAwr34_11 : Hid (SliceF wr34_11 (World.heap w16.drew).size v1 L) := SAwr34_10.out.below hbwr34_11
            have SBwr34_11 : Hid (SliceS wr34_11 (World.heap wr34_1).size v2 n f) := SBwr34_10.out.below hbwr34_11
            have Xwr34_11 : Hid (BoxF wr34_11 bwr34_10) := Xwr34_10.out.below hbwr34_11
            have ywr34_11 := hbwr34_11.size
            clear hb' hbwr34_11
            try (go_wp2_with fail)
            refine hK.out _ _ ?_ (fun hH4 => ?_)
            · (try dsimp only)
              first | go_keep | (refine ⟨?_, ?_, ?_, ?_⟩ <;> assumption)
            clear hK K hH3
            try simp only [Act.put, List.setIfInBounds_toArray, List.set_cons_zero, List.set_cons_succ]
            refine wpAnyH_ready (rs := [7]) (by kernel_rfl) (by simp) ?_
            refine AllReadyH.cons (o := { dst := some 97, op := Op.call { callee := Callee.value (Operand.func 12), args := #[Operand.tmp 91, Operand.tmp 93, Operand.tmp 94, Operand.tmp 96], argTypes := #[29, 23, 2, 35] }, type := 31, pos := "exact.go:3201", after := #[{ on := 1, ground := Ground.data }, { on := 3, ground := Ground.data }, { on := 4, ground := Ground.data }, { on := 6, ground := Ground.data }, { on := 6, ground := Ground.chain }], guard := none }) rfl (fun K hK => ?_) AllReadyH.nil
            · skip
              go_simp
              refine (KI.out _ _ _ _ _ (B_w16.out.trans (Ewr34_11.out.mono B_w16.out.size)) SAwr34_11.out SBwr34_11.out).mono ?_
              rintro e wr34_12 ⟨vx', rfl, ⟨sx, rfl, sx1⟩, hb'⟩
              obtain ⟨psx, csx, hsx⟩ : ∃ p c, sx = .slice p Z.ar.length c := by obtain ⟨⟨p, cap, e, -⟩, -⟩ := sx1; exact ⟨p, cap, e⟩
              subst hsx
              have hbwr34_12 : Below (World.heap wr34_11).size wr34_11 wr34_12 := hb'
              have Ewr34_12 : Hid (Below w16.heap.size w16 wr34_12) := Ewr34_11.out.trans (hbwr34_12.mono Ewr34_11.out.size)
              have Qwr34_12_0 := ((bcell Ewr34_12.out).1 _ _ z0).trans q_0
              have Qwr34_12_1 := ((bcell Ewr34_12.out).1 _ _ z0).trans q_1
              have Qwr34_12_2 := ((bcell Ewr34_12.out).1 _ _ z0).trans q_2
              have Qwr34_12_3 := ((bcell Ewr34_12.out).1 _ _ z0).trans q_3
              have SAwr34_12 : Hid (SliceF wr34_12 (World.heap w16.drew).size v1 L) := SAwr34_11.out.below hbwr34_12
              have SBwr34_12 : Hid (SliceS wr34_12 (World.heap wr34_1).size v2 n f) := SBwr34_11.out.below hbwr34_12
              have Xwr34_12 : Hid (BoxF wr34_12 bwr34_10) := Xwr34_11.out.below hbwr34_12
              have ywr34_12 := hbwr34_12.size
              have SMwr34_12 : Hid (SliceF wr34_12 w16.heap.size (.slice psx Z.ar.length csx) Z.ar) := sx1.mono Ewr34_11.out.size
              have PN : Hid (0 < Z.ar.length → ∃ g, (Value.slice psx Z.ar.length csx).ownBlock = some g ∧ g ≠ bwr34_10) := fun h => by
                obtain ⟨g, e, h1, -⟩ := sx1.1.place h
                exact ⟨g, e, by have := Xwr34_11.out.lt; omega⟩
              clear sx1 hb' hbwr34_12
              try (go_wp2_with fail)
              refine hK.out _ _ ?_ (fun hH5 => ?_)
              · (try dsimp only)
                first | go_keep | (refine ⟨?_, ?_, ?_, ?_⟩ <;> assumption)
              clear hK K hH4
              try simp only [Act.put, List.setIfInBounds_toArray, List.set_cons_zero, List.set_cons_succ]
              refine wpAnyH_ready (rs := [9]) (by kernel_rfl) (by simp) ?_
              refine AllReadyH.cons (o := { dst := none, op := Op.store 31 (Operand.tmp 17) (Operand.tmp 97), type := 0, pos := "exact.go:3201", after := #[{ on := 8, ground := Ground.data }, { on := 7, ground := Ground.data }, { on := 7, ground := Ground.chain }, { on := 0, ground := Ground.phase }, { on := 1, ground := Ground.phase }, { on := 2, ground := Ground.phase }, { on := 3, ground := Ground.phase }, { on := 4, ground := Ground.phase }, { on := 5, ground := Ground.phase }, { on := 6, ground := Ground.phase }, { on := 7, ground := Ground.phase }, { on := 8, ground := Ground.phase }], guard := none }) rfl (fun K hK => ?_) AllReadyH.nil
              · skip
                obtain ⟨x0, x1, x2, f0, f1, f2, hlt⟩ := Xwr34_12.out
                have hne : ¬ w.heap.size = bwr34_10 := by have := z0; have := ewr34_10; omega
                obtain ⟨wr34_13, hwr34_13⟩ : ∃ W, W = ((World.setCell wr34_12 ⟨bwr34_10, 0, none⟩ (.slice psx Z.ar.length csx)).setCell ⟨bwr34_10, 1, none⟩ (.int .i64 Z.id)).setCell ⟨bwr34_10, 2, none⟩ (.int .i64 Z.co) := ⟨_, rfl⟩
                have Hwr34_13 : Hid (wr34_13 = ((World.setCell wr34_12 ⟨bwr34_10, 0, none⟩ (.slice psx Z.ar.length csx)).setCell ⟨bwr34_10, 1, none⟩ (.int .i64 Z.id)).setCell ⟨bwr34_10, 2, none⟩ (.int .i64 Z.co)) := hwr34_13
                have Ewr34_13 : Hid (Below w16.heap.size w16 wr34_13) := by show Below _ _ _; rw [hwr34_13]; exact Ewr34_12.out.trans ((store3F_below (Below.refl bwr34_10 wr34_12)).mono ewr34_10)
                have Qwr34_13_0 := ((bcell Ewr34_13.out).1 _ _ z0).trans q_0
                have Qwr34_13_1 := ((bcell Ewr34_13.out).1 _ _ z0).trans q_1
                have Qwr34_13_2 := ((bcell Ewr34_13.out).1 _ _ z0).trans q_2
                have Qwr34_13_3 := ((bcell Ewr34_13.out).1 _ _ z0).trans q_3
                have Iwr34_13 : Hid (InBoxF wr34_13 bwr34_10 (.slice psx Z.ar.length csx) Z) := by show InBoxF _ _ _ _; rw [hwr34_13]; exact inBoxF_stored Xwr34_12.out
                have SMwr34_13 : Hid (SliceF wr34_13 w16.heap.size (.slice psx Z.ar.length csx) Z.ar) := by show SliceF _ _ _ _; rw [hwr34_13]; exact keep_cell (keep_cell (keep_cell SMwr34_12.out PN.out) PN.out) PN.out
                have e_wr34_13 := ewr34_10
                clear hwr34_13
                go_simp
                rw [← Hwr34_13.out]
                clear Hwr34_13
                refine hK.out _ _ ?_ (fun hH6 => ?_)
                · (try dsimp only)
                  first | go_keep | (refine ⟨?_, ?_, ?_, ?_⟩ <;> assumption)
                clear hK K hH5
                try simp only [Act.put, List.setIfInBounds_toArray, List.set_cons_zero, List.set_cons_succ]
                refine wpAnyH_done (by kernel_rfl) ?_ _
                exact tail bwr34_10 _ _ _ _ _ _ _ _ _ _ _ _ _ _ _ _ _ _ _ _ _ _ _ _ _ _ _ _ _ _ _ _ _ _ _ _ _ _ _ _ _ _ _ _ _ _ _ _ _ _ _ _ _ _ _ _ _ _ _ _ _ _ _ _ _ _ _ _ _ _ _ _ _ _ _ _ _ _ _ _ _ _ _ _ _ _ _ _ _ _ _ _ _ wr34_13 e_wr34_13 Ewr34_13 Iwr34_13 SMwr34_13
      · skip
        obtain ⟨wr34_14, hwr34_14⟩ : ∃ W, W = World.alloc wr34_1 (.cells #[.slice none 0 0, .int .i64 0, .int .i64 0] 31) := ⟨_, rfl⟩
        have Hwr34_14 : Hid (wr34_14 = World.alloc wr34_1 (.cells #[.slice none 0 0, .int .i64 0, .int .i64 0] 31)) := hwr34_14
        have hbwr34_14 : Below (World.heap wr34_1).size wr34_1 wr34_14 := by rw [hwr34_14]; exact (Below.refl _ _).alloc (Nat.le_refl _) _
        have Ewr34_14 : Hid (Below w16.heap.size w16 wr34_14) := Ewr34_1.out.trans (hbwr34_14.mono Ewr34_1.out.size)
        have Qwr34_14_0 := ((bcell Ewr34_14.out).1 _ _ z0).trans q_0
        have Qwr34_14_1 := ((bcell Ewr34_14.out).1 _ _ z0).trans q_1
        have Qwr34_14_2 := ((bcell Ewr34_14.out).1 _ _ z0).trans q_2
        have Qwr34_14_3 := ((bcell Ewr34_14.out).1 _ _ z0).trans q_3
        have SAwr34_14 : Hid (SliceF wr34_14 (World.heap w16.drew).size v1 L) := SAwr34_1.out.below hbwr34_14
        have ywr34_14 := hbwr34_14.size
        obtain ⟨bwr34_14, hqwr34_14⟩ : ∃ b, b = (World.heap wr34_1).size := ⟨_, rfl⟩
        have Hqwr34_14 : Hid (bwr34_14 = (World.heap wr34_1).size) := hqwr34_14
        have Xwr34_14 : Hid (BoxF wr34_14 bwr34_14) := by show BoxF _ _; rw [hwr34_14, hqwr34_14]; exact boxF_made _ _
        have gwr34_14 : bwr34_14 < wr34_14.heap.size := by rw [hwr34_14, hqwr34_14]; simp
        have ewr34_14 : w16.heap.size ≤ bwr34_14 := by rw [hqwr34_14]; exact Ewr34_1.out.size
        clear hwr34_14 hbwr34_14 hqwr34_14
        go_simp
        rw [← Hwr34_14.out, ← Hqwr34_14.out]
        clear Hwr34_14 Hqwr34_14
        refine hK.out _ _ ?_ (fun hH2 => ?_)
        · (try dsimp only)
          first | go_keep | (refine ⟨?_, ?_, ?_, ?_⟩ <;> assumption)
        clear hK K hH1
        try simp only [Act.put, List.setIfInBounds_toArray, List.set_cons_zero, List.set_cons_succ]
        refine wpAnyH_ready (rs := [3]) (by kernel_rfl) (by simp) ?_
        refine AllReadyH.cons (o := { dst := some 93, op := Op.call { callee := Callee.value (Operand.func 10), args := #[Operand.tmp 92], argTypes := #[23] }, type := 23, pos := "exact.go:3201", after := #[{ on := 2, ground := Ground.data }, { on := 1, ground := Ground.chain }], guard := none }) rfl (fun K hK => ?_) AllReadyH.nil
        · skip
          go_simp
          refine (KR.out _ (B_w16.out.trans (Ewr34_14.out.mono B_w16.out.size))).mono ?_
          rintro e wr34_15 ⟨v2, rfl, s', hb'⟩
          have hbwr34_15 : Below (World.heap wr34_14).size wr34_14 wr34_15 := hb'
          have Ewr34_15 : Hid (Below w16.heap.size w16 wr34_15) := Ewr34_14.out.trans (hbwr34_15.mono Ewr34_14.out.size)
          have Qwr34_15_0 := ((bcell Ewr34_15.out).1 _ _ z0).trans q_0
          have Qwr34_15_1 := ((bcell Ewr34_15.out).1 _ _ z0).trans q_1
          have Qwr34_15_2 := ((bcell Ewr34_15.out).1 _ _ z0).trans q_2
          have Qwr34_15_3 := ((bcell Ewr34_15.out).1 _ _ z0).trans q_3
          have SAwr34_15 : Hid (SliceF wr34_15 (World.heap w16.drew).size v1 L) := SAwr34_14.out.below hbwr34_15
          have Xwr34_15 : Hid (BoxF wr34_15 bwr34_14) := Xwr34_14.out.below hbwr34_15
          have ywr34_15 := hbwr34_15.size
          have SBwr34_15 : Hid (SliceS wr34_15 (World.heap wr34_14).size v2 n f) := s'
          clear s' hb' hbwr34_15
          try (go_wp2_with fail)
          refine hK.out _ _ ?_ (fun hH3 => ?_)
          · (try dsimp only)
            first | go_keep | (refine ⟨?_, ?_, ?_, ?_⟩ <;> assumption)
          clear hK K hH2
          try simp only [Act.put, List.setIfInBounds_toArray, List.set_cons_zero, List.set_cons_succ]
          refine wpAnyH_ready (rs := [6]) (by kernel_rfl) (by simp) ?_
          refine AllReadyH.cons (o := { dst := some 96, op := Op.call { callee := Callee.value (Operand.func 11), args := #[Operand.tmp 95], argTypes := #[25] }, type := 35, pos := "exact.go:3201", after := #[{ on := 5, ground := Ground.data }, { on := 3, ground := Ground.chain }], guard := none }) rfl (fun K hK => ?_) AllReadyH.nil
          · skip
            go_simp
            refine (KU.out _).mono ?_
            rintro e wr34_16 ⟨rfl, hb'⟩
            have hbwr34_16 : Below (World.heap wr34_15).size wr34_15 wr34_16 := hb'
            have Ewr34_16 : Hid (Below w16.heap.size w16 wr34_16) := Ewr34_15.out.trans (hbwr34_16.mono Ewr34_15.out.size)
            have Qwr34_16_0 := ((bcell Ewr34_16.out).1 _ _ z0).trans q_0
            have Qwr34_16_1 := ((bcell Ewr34_16.out).1 _ _ z0).trans q_1
            have Qwr34_16_2 := ((bcell Ewr34_16.out).1 _ _ z0).trans q_2
            have Qwr34_16_3 := ((bcell Ewr34_16.out).1 _ _ z0).trans q_3
            have SAwr34_16 : Hid (SliceF wr34_16 (World.heap w16.drew).size v1 L) := SAwr34_15.out.below hbwr34_16
            have SBwr34_16 : Hid (SliceS wr34_16 (World.heap wr34_14).size v2 n f) := SBwr34_15.out.below hbwr34_16
            have Xwr34_16 : Hid (BoxF wr34_16 bwr34_14) := Xwr34_15.out.below hbwr34_16
            have ywr34_16 := hbwr34_16.size
            clear hb' hbwr34_16
            try (go_wp2_with fail)
            refine hK.out _ _ ?_ (fun hH4 => ?_)
            · (try dsimp only)
              first | go_keep | (refine ⟨?_, ?_, ?_, ?_⟩ <;> assumption)
            clear hK K hH3
            try simp only [Act.put, List.setIfInBounds_toArray, List.set_cons_zero, List.set_cons_succ]
            refine wpAnyH_ready (rs := [7]) (by kernel_rfl) (by simp) ?_
            refine AllReadyH.cons (o := { dst := some 97, op := Op.call { callee := Callee.value (Operand.func 12), args := #[Operand.tmp 91, Operand.tmp 93, Operand.tmp 94, Operand.tmp 96], argTypes := #[29, 23, 2, 35] }, type := 31, pos := "exact.go:3201", after := #[{ on := 1, ground := Ground.data }, { on := 3, ground := Ground.data }, { on := 4, ground := Ground.data }, { on := 6, ground := Ground.data }, { on := 6, ground := Ground.chain }], guard := none }) rfl (fun K hK => ?_) AllReadyH.nil
            · skip
              go_simp
              refine (KI.out _ _ _ _ _ (B_w16.out.trans (Ewr34_16.out.mono B_w16.out.size)) SAwr34_16.out SBwr34_16.out).mono ?_
              rintro e wr34_17 ⟨vx', rfl, ⟨sx, rfl, sx1⟩, hb'⟩
              obtain ⟨psx, csx, hsx⟩ : ∃ p c, sx = .slice p Z.ar.length c := by obtain ⟨⟨p, cap, e, -⟩, -⟩ := sx1; exact ⟨p, cap, e⟩
              subst hsx
              have hbwr34_17 : Below (World.heap wr34_16).size wr34_16 wr34_17 := hb'
              have Ewr34_17 : Hid (Below w16.heap.size w16 wr34_17) := Ewr34_16.out.trans (hbwr34_17.mono Ewr34_16.out.size)
              have Qwr34_17_0 := ((bcell Ewr34_17.out).1 _ _ z0).trans q_0
              have Qwr34_17_1 := ((bcell Ewr34_17.out).1 _ _ z0).trans q_1
              have Qwr34_17_2 := ((bcell Ewr34_17.out).1 _ _ z0).trans q_2
              have Qwr34_17_3 := ((bcell Ewr34_17.out).1 _ _ z0).trans q_3
              have SAwr34_17 : Hid (SliceF wr34_17 (World.heap w16.drew).size v1 L) := SAwr34_16.out.below hbwr34_17
              have SBwr34_17 : Hid (SliceS wr34_17 (World.heap wr34_14).size v2 n f) := SBwr34_16.out.below hbwr34_17
              have Xwr34_17 : Hid (BoxF wr34_17 bwr34_14) := Xwr34_16.out.below hbwr34_17
              have ywr34_17 := hbwr34_17.size
              have SMwr34_17 : Hid (SliceF wr34_17 w16.heap.size (.slice psx Z.ar.length csx) Z.ar) := sx1.mono Ewr34_16.out.size
              have PN : Hid (0 < Z.ar.length → ∃ g, (Value.slice psx Z.ar.length csx).ownBlock = some g ∧ g ≠ bwr34_14) := fun h => by
                obtain ⟨g, e, h1, -⟩ := sx1.1.place h
                exact ⟨g, e, by have := Xwr34_16.out.lt; omega⟩
              clear sx1 hb' hbwr34_17
              try (go_wp2_with fail)
              refine hK.out _ _ ?_ (fun hH5 => ?_)
              · (try dsimp only)
                first | go_keep | (refine ⟨?_, ?_, ?_, ?_⟩ <;> assumption)
              clear hK K hH4
              try simp only [Act.put, List.setIfInBounds_toArray, List.set_cons_zero, List.set_cons_succ]
              refine wpAnyH_ready (rs := [9]) (by kernel_rfl) (by simp) ?_
              refine AllReadyH.cons (o := { dst := none, op := Op.store 31 (Operand.tmp 17) (Operand.tmp 97), type := 0, pos := "exact.go:3201", after := #[{ on := 8, ground := Ground.data }, { on := 7, ground := Ground.data }, { on := 7, ground := Ground.chain }, { on := 0, ground := Ground.phase }, { on := 1, ground := Ground.phase }, { on := 2, ground := Ground.phase }, { on := 3, ground := Ground.phase }, { on := 4, ground := Ground.phase }, { on := 5, ground := Ground.phase }, { on := 6, ground := Ground.phase }, { on := 7, ground := Ground.phase }, { on := 8, ground := Ground.phase }], guard := none }) rfl (fun K hK => ?_) AllReadyH.nil
              · skip
                obtain ⟨x0, x1, x2, f0, f1, f2, hlt⟩ := Xwr34_17.out
                have hne : ¬ w.heap.size = bwr34_14 := by have := z0; have := ewr34_14; omega
                obtain ⟨wr34_18, hwr34_18⟩ : ∃ W, W = ((World.setCell wr34_17 ⟨bwr34_14, 0, none⟩ (.slice psx Z.ar.length csx)).setCell ⟨bwr34_14, 1, none⟩ (.int .i64 Z.id)).setCell ⟨bwr34_14, 2, none⟩ (.int .i64 Z.co) := ⟨_, rfl⟩
                have Hwr34_18 : Hid (wr34_18 = ((World.setCell wr34_17 ⟨bwr34_14, 0, none⟩ (.slice psx Z.ar.length csx)).setCell ⟨bwr34_14, 1, none⟩ (.int .i64 Z.id)).setCell ⟨bwr34_14, 2, none⟩ (.int .i64 Z.co)) := hwr34_18
                have Ewr34_18 : Hid (Below w16.heap.size w16 wr34_18) := by show Below _ _ _; rw [hwr34_18]; exact Ewr34_17.out.trans ((store3F_below (Below.refl bwr34_14 wr34_17)).mono ewr34_14)
                have Qwr34_18_0 := ((bcell Ewr34_18.out).1 _ _ z0).trans q_0
                have Qwr34_18_1 := ((bcell Ewr34_18.out).1 _ _ z0).trans q_1
                have Qwr34_18_2 := ((bcell Ewr34_18.out).1 _ _ z0).trans q_2
                have Qwr34_18_3 := ((bcell Ewr34_18.out).1 _ _ z0).trans q_3
                have Iwr34_18 : Hid (InBoxF wr34_18 bwr34_14 (.slice psx Z.ar.length csx) Z) := by show InBoxF _ _ _ _; rw [hwr34_18]; exact inBoxF_stored Xwr34_17.out
                have SMwr34_18 : Hid (SliceF wr34_18 w16.heap.size (.slice psx Z.ar.length csx) Z.ar) := by show SliceF _ _ _ _; rw [hwr34_18]; exact keep_cell (keep_cell (keep_cell SMwr34_17.out PN.out) PN.out) PN.out
                have e_wr34_18 := ewr34_14
                clear hwr34_18
                go_simp
                rw [← Hwr34_18.out]
                clear Hwr34_18
                refine hK.out _ _ ?_ (fun hH6 => ?_)
                · (try dsimp only)
                  first | go_keep | (refine ⟨?_, ?_, ?_, ?_⟩ <;> assumption)
                clear hK K hH5
                try simp only [Act.put, List.setIfInBounds_toArray, List.set_cons_zero, List.set_cons_succ]
                refine wpAnyH_done (by kernel_rfl) ?_ _
                exact tail bwr34_14 _ _ _ _ _ _ _ _ _ _ _ _ _ _ _ _ _ _ _ _ _ _ _ _ _ _ _ _ _ _ _ _ _ _ _ _ _ _ _ _ _ _ _ _ _ _ _ _ _ _ _ _ _ _ _ _ _ _ _ _ _ _ _ _ _ _ _ _ _ _ _ _ _ _ _ _ _ _ _ _ _ _ _ _ _ _ _ _ _ _ _ _ _ wr34_18 e_wr34_18 Ewr34_18 Iwr34_18 SMwr34_18
    · skip
      obtain ⟨wr34_19, hwr34_19⟩ : ∃ W, W = (World.alloc w16 (.cells #[.slice none 0 0, .int .i64 0, .int .i64 0] 31)).drew := ⟨_, rfl⟩
      have Hwr34_19 : Hid (wr34_19 = (World.alloc w16 (.cells #[.slice none 0 0, .int .i64 0, .int .i64 0] 31)).drew) := hwr34_19
      have Ewr34_19 : Hid (Below w16.heap.size w16 wr34_19) := by show Below _ _ _; rw [hwr34_19]; exact ((Below.refl _ _).alloc (Nat.le_refl _) _).drew
      have Qwr34_19_0 := ((bcell Ewr34_19.out).1 _ _ z0).trans q_0
      have Qwr34_19_1 := ((bcell Ewr34_19.out).1 _ _ z0).trans q_1
      have Qwr34_19_2 := ((bcell Ewr34_19.out).1 _ _ z0).trans q_2
      have Qwr34_19_3 := ((bcell Ewr34_19.out).1 _ _ z0).trans q_3
      obtain ⟨bwr34_19, hqwr34_19⟩ : ∃ b, b = w16.heap.size := ⟨_, rfl⟩
      have Hqwr34_19 : Hid (bwr34_19 = w16.heap.size) := hqwr34_19
      have Xwr34_19 : Hid (BoxF wr34_19 bwr34_19) := by show BoxF _ _; rw [hwr34_19, hqwr34_19]; exact (boxF_made _ _).below (Below.refl _ _).drew
      have ewr34_19 : w16.heap.size ≤ bwr34_19 := by rw [hqwr34_19]; exact Nat.le_refl _
      clear hwr34_19 hqwr34_19
      go_simp
      rw [← Hwr34_19.out, ← Hqwr34_19.out]
      clear Hwr34_19 Hqwr34_19
      refine hK.out _ _ ?_ (fun hH1 => ?_)
      · (try dsimp only)
        first | go_keep | (refine ⟨?_, ?_, ?_, ?_⟩ <;> assumption)
      clear hK K hH0
      try simp only [Act.put, List.setIfInBounds_toArray, List.set_cons_zero, List.set_cons_succ]
      refine wpAnyH_ready (rs := [1]) (by kernel_rfl) (by simp) ?_
      refine AllReadyH.cons (o := { dst := some 91, op := Op.call { callee := Callee.value (Operand.func 9), args := #[Operand.tmp 90], argTypes := #[22] }, type := 29, pos := "exact.go:3201", after := #[{ on := 0, ground := Ground.data }], guard := none }) rfl (fun K hK => ?_) AllReadyH.nil
      · skip
        go_simp
        refine (KT.out _ (B_w16.out.trans (Ewr34_19.out.mono B_w16.out.size))).mono ?_
        rintro e wr34_20 ⟨v1, rfl, s', hb'⟩
        have hbwr34_20 : Below (World.heap wr34_19).size wr34_19 wr34_20 := hb'
        have Ewr34_20 : Hid (Below w16.heap.size w16 wr34_20) := Ewr34_19.out.trans (hbwr34_20.mono Ewr34_19.out.size)
        have Qwr34_20_0 := ((bcell Ewr34_20.out).1 _ _ z0).trans q_0
        have Qwr34_20_1 := ((bcell Ewr34_20.out).1 _ _ z0).trans q_1
        have Qwr34_20_2 := ((bcell Ewr34_20.out).1 _ _ z0).trans q_2
        have Qwr34_20_3 := ((bcell Ewr34_20.out).1 _ _ z0).trans q_3
        have Xwr34_20 : Hid (BoxF wr34_20 bwr34_19) := Xwr34_19.out.below hbwr34_20
        have ywr34_20 := hbwr34_20.size
        have SAwr34_20 : Hid (SliceF wr34_20 (World.heap wr34_19).size v1 L) := s'
        clear s' hb' hbwr34_20
        try (go_wp2_with fail)
        refine hK.out _ _ ?_ (fun hH2 => ?_)
        · (try dsimp only)
          first | go_keep | (refine ⟨?_, ?_, ?_, ?_⟩ <;> assumption)
        clear hK K hH1
        try simp only [Act.put, List.setIfInBounds_toArray, List.set_cons_zero, List.set_cons_succ]
        refine wpAnyH_ready (rs := [3]) (by kernel_rfl) (by simp) ?_
        refine AllReadyH.cons (o := { dst := some 93, op := Op.call { callee := Callee.value (Operand.func 10), args := #[Operand.tmp 92], argTypes := #[23] }, type := 23, pos := "exact.go:3201", after := #[{ on := 2, ground := Ground.data }, { on := 1, ground := Ground.chain }], guard := none }) rfl (fun K hK => ?_) AllReadyH.nil
        · skip
          go_simp
          refine (KR.out _ (B_w16.out.trans (Ewr34_20.out.mono B_w16.out.size))).mono ?_
          rintro e wr34_21 ⟨v2, rfl, s', hb'⟩
          have hbwr34_21 : Below (World.heap wr34_20).size wr34_20 wr34_21 := hb'
          have Ewr34_21 : Hid (Below w16.heap.size w16 wr34_21) := Ewr34_20.out.trans (hbwr34_21.mono Ewr34_20.out.size)
          have Qwr34_21_0 := ((bcell Ewr34_21.out).1 _ _ z0).trans q_0
          have Qwr34_21_1 := ((bcell Ewr34_21.out).1 _ _ z0).trans q_1
          have Qwr34_21_2 := ((bcell Ewr34_21.out).1 _ _ z0).trans q_2
          have Qwr34_21_3 := ((bcell Ewr34_21.out).1 _ _ z0).trans q_3
          have SAwr34_21 : Hid (SliceF wr34_21 (World.heap wr34_19).size v1 L) := SAwr34_20.out.below hbwr34_21
          have Xwr34_21 : Hid (BoxF wr34_21 bwr34_19) := Xwr34_20.out.below hbwr34_21
          have ywr34_21 := hbwr34_21.size
          have SBwr34_21 : Hid (SliceS wr34_21 (World.heap wr34_20).size v2 n f) := s'
          clear s' hb' hbwr34_21
          try (go_wp2_with fail)
          refine hK.out _ _ ?_ (fun hH3 => ?_)
          · (try dsimp only)
            first | go_keep | (refine ⟨?_, ?_, ?_, ?_⟩ <;> assumption)
          clear hK K hH2
          try simp only [Act.put, List.setIfInBounds_toArray, List.set_cons_zero, List.set_cons_succ]
          refine wpAnyH_ready (rs := [6]) (by kernel_rfl) (by simp) ?_
          refine AllReadyH.cons (o := { dst := some 96, op := Op.call { callee := Callee.value (Operand.func 11), args := #[Operand.tmp 95], argTypes := #[25] }, type := 35, pos := "exact.go:3201", after := #[{ on := 5, ground := Ground.data }, { on := 3, ground := Ground.chain }], guard := none }) rfl (fun K hK => ?_) AllReadyH.nil
          · skip
            go_simp
            refine (KU.out _).mono ?_
            rintro e wr34_22 ⟨rfl, hb'⟩
            have hbwr34_22 : Below (World.heap wr34_21).size wr34_21 wr34_22 := hb'
            have Ewr34_22 : Hid (Below w16.heap.size w16 wr34_22) := Ewr34_21.out.trans (hbwr34_22.mono Ewr34_21.out.size)
            have Qwr34_22_0 := ((bcell Ewr34_22.out).1 _ _ z0).trans q_0
            have Qwr34_22_1 := ((bcell Ewr34_22.out).1 _ _ z0).trans q_1
            have Qwr34_22_2 := ((bcell Ewr34_22.out).1 _ _ z0).trans q_2
            have Qwr34_22_3 := ((bcell Ewr34_22.out).1 _ _ z0).trans q_3
            have SAwr34_22 : Hid (SliceF wr34_22 (World.heap wr34_19).size v1 L) := SAwr34_21.out.below hbwr34_22
            have SBwr34_22 : Hid (SliceS wr34_22 (World.heap wr34_20).size v2 n f) := SBwr34_21.out.below hbwr34_22
            have Xwr34_22 : Hid (BoxF wr34_22 bwr34_19) := Xwr34_21.out.below hbwr34_22
            have ywr34_22 := hbwr34_22.size
            clear hb' hbwr34_22
            try (go_wp2_with fail)
            refine hK.out _ _ ?_ (fun hH4 => ?_)
            · (try dsimp only)
              first | go_keep | (refine ⟨?_, ?_, ?_, ?_⟩ <;> assumption)
            clear hK K hH3
            try simp only [Act.put, List.setIfInBounds_toArray, List.set_cons_zero, List.set_cons_succ]
            refine wpAnyH_ready (rs := [7]) (by kernel_rfl) (by simp) ?_
            refine AllReadyH.cons (o := { dst := some 97, op := Op.call { callee := Callee.value (Operand.func 12), args := #[Operand.tmp 91, Operand.tmp 93, Operand.tmp 94, Operand.tmp 96], argTypes := #[29, 23, 2, 35] }, type := 31, pos := "exact.go:3201", after := #[{ on := 1, ground := Ground.data }, { on := 3, ground := Ground.data }, { on := 4, ground := Ground.data }, { on := 6, ground := Ground.data }, { on := 6, ground := Ground.chain }], guard := none }) rfl (fun K hK => ?_) AllReadyH.nil
            · skip
              go_simp
              refine (KI.out _ _ _ _ _ (B_w16.out.trans (Ewr34_22.out.mono B_w16.out.size)) SAwr34_22.out SBwr34_22.out).mono ?_
              rintro e wr34_23 ⟨vx', rfl, ⟨sx, rfl, sx1⟩, hb'⟩
              obtain ⟨psx, csx, hsx⟩ : ∃ p c, sx = .slice p Z.ar.length c := by obtain ⟨⟨p, cap, e, -⟩, -⟩ := sx1; exact ⟨p, cap, e⟩
              subst hsx
              have hbwr34_23 : Below (World.heap wr34_22).size wr34_22 wr34_23 := hb'
              have Ewr34_23 : Hid (Below w16.heap.size w16 wr34_23) := Ewr34_22.out.trans (hbwr34_23.mono Ewr34_22.out.size)
              have Qwr34_23_0 := ((bcell Ewr34_23.out).1 _ _ z0).trans q_0
              have Qwr34_23_1 := ((bcell Ewr34_23.out).1 _ _ z0).trans q_1
              have Qwr34_23_2 := ((bcell Ewr34_23.out).1 _ _ z0).trans q_2
              have Qwr34_23_3 := ((bcell Ewr34_23.out).1 _ _ z0).trans q_3
              have SAwr34_23 : Hid (SliceF wr34_23 (World.heap wr34_19).size v1 L) := SAwr34_22.out.below hbwr34_23
              have SBwr34_23 : Hid (SliceS wr34_23 (World.heap wr34_20).size v2 n f) := SBwr34_22.out.below hbwr34_23
              have Xwr34_23 : Hid (BoxF wr34_23 bwr34_19) := Xwr34_22.out.below hbwr34_23
              have ywr34_23 := hbwr34_23.size
              have SMwr34_23 : Hid (SliceF wr34_23 w16.heap.size (.slice psx Z.ar.length csx) Z.ar) := sx1.mono Ewr34_22.out.size
              have PN : Hid (0 < Z.ar.length → ∃ g, (Value.slice psx Z.ar.length csx).ownBlock = some g ∧ g ≠ bwr34_19) := fun h => by
                obtain ⟨g, e, h1, -⟩ := sx1.1.place h
                exact ⟨g, e, by have := Xwr34_22.out.lt; omega⟩
              clear sx1 hb' hbwr34_23
              try (go_wp2_with fail)
              refine hK.out _ _ ?_ (fun hH5 => ?_)
              · (try dsimp only)
                first | go_keep | (refine ⟨?_, ?_, ?_, ?_⟩ <;> assumption)
              clear hK K hH4
              try simp only [Act.put, List.setIfInBounds_toArray, List.set_cons_zero, List.set_cons_succ]
              refine wpAnyH_ready (rs := [9]) (by kernel_rfl) (by simp) ?_
              refine AllReadyH.cons (o := { dst := none, op := Op.store 31 (Operand.tmp 17) (Operand.tmp 97), type := 0, pos := "exact.go:3201", after := #[{ on := 8, ground := Ground.data }, { on := 7, ground := Ground.data }, { on := 7, ground := Ground.chain }, { on := 0, ground := Ground.phase }, { on := 1, ground := Ground.phase }, { on := 2, ground := Ground.phase }, { on := 3, ground := Ground.phase }, { on := 4, ground := Ground.phase }, { on := 5, ground := Ground.phase }, { on := 6, ground := Ground.phase }, { on := 7, ground := Ground.phase }, { on := 8, ground := Ground.phase }], guard := none }) rfl (fun K hK => ?_) AllReadyH.nil
              · skip
                obtain ⟨x0, x1, x2, f0, f1, f2, hlt⟩ := Xwr34_23.out
                have hne : ¬ w.heap.size = bwr34_19 := by have := z0; have := ewr34_19; omega
                obtain ⟨wr34_24, hwr34_24⟩ : ∃ W, W = ((World.setCell wr34_23 ⟨bwr34_19, 0, none⟩ (.slice psx Z.ar.length csx)).setCell ⟨bwr34_19, 1, none⟩ (.int .i64 Z.id)).setCell ⟨bwr34_19, 2, none⟩ (.int .i64 Z.co) := ⟨_, rfl⟩
                have Hwr34_24 : Hid (wr34_24 = ((World.setCell wr34_23 ⟨bwr34_19, 0, none⟩ (.slice psx Z.ar.length csx)).setCell ⟨bwr34_19, 1, none⟩ (.int .i64 Z.id)).setCell ⟨bwr34_19, 2, none⟩ (.int .i64 Z.co)) := hwr34_24
                have Ewr34_24 : Hid (Below w16.heap.size w16 wr34_24) := by show Below _ _ _; rw [hwr34_24]; exact Ewr34_23.out.trans ((store3F_below (Below.refl bwr34_19 wr34_23)).mono ewr34_19)
                have Qwr34_24_0 := ((bcell Ewr34_24.out).1 _ _ z0).trans q_0
                have Qwr34_24_1 := ((bcell Ewr34_24.out).1 _ _ z0).trans q_1
                have Qwr34_24_2 := ((bcell Ewr34_24.out).1 _ _ z0).trans q_2
                have Qwr34_24_3 := ((bcell Ewr34_24.out).1 _ _ z0).trans q_3
                have Iwr34_24 : Hid (InBoxF wr34_24 bwr34_19 (.slice psx Z.ar.length csx) Z) := by show InBoxF _ _ _ _; rw [hwr34_24]; exact inBoxF_stored Xwr34_23.out
                have SMwr34_24 : Hid (SliceF wr34_24 w16.heap.size (.slice psx Z.ar.length csx) Z.ar) := by show SliceF _ _ _ _; rw [hwr34_24]; exact keep_cell (keep_cell (keep_cell SMwr34_23.out PN.out) PN.out) PN.out
                have e_wr34_24 := ewr34_19
                clear hwr34_24
                go_simp
                rw [← Hwr34_24.out]
                clear Hwr34_24
                refine hK.out _ _ ?_ (fun hH6 => ?_)
                · (try dsimp only)
                  first | go_keep | (refine ⟨?_, ?_, ?_, ?_⟩ <;> assumption)
                clear hK K hH5
                try simp only [Act.put, List.setIfInBounds_toArray, List.set_cons_zero, List.set_cons_succ]
                refine wpAnyH_done (by kernel_rfl) ?_ _
                exact tail bwr34_19 _ _ _ _ _ _ _ _ _ _ _ _ _ _ _ _ _ _ _ _ _ _ _ _ _ _ _ _ _ _ _ _ _ _ _ _ _ _ _ _ _ _ _ _ _ _ _ _ _ _ _ _ _ _ _ _ _ _ _ _ _ _ _ _ _ _ _ _ _ _ _ _ _ _ _ _ _ _ _ _ _ _ _ _ _ _ _ _ _ _ _ _ _ wr34_24 e_wr34_24 Ewr34_24 Iwr34_24 SMwr34_24
  clear hK
  refine wp_region_held_drew (S := (fun w' => w'.cell? ⟨w.heap.size, 0, none⟩ = some (.string sc) ∧ w'.cell? ⟨w.heap.size, 1, none⟩ = some (.string ho) ∧ w'.cell? ⟨w.heap.size, 2, none⟩ = some (.int .i64 po) ∧ w'.cell? ⟨w.heap.size, 3, none⟩ = some (.string pt))) (by kernel_rfl) ?_ (fun hH0 => ?_)
  · (try dsimp only)
    first | go_keep | (refine ⟨?_, ?_, ?_, ?_⟩ <;> assumption)
  have Er11d : Hid (Below w0.heap.size w0 w0.drew) := (Below.refl _ _).drew
  refine wpAnyH_take (i := 0) (oi := { dst := some 33, op := Op.move (Operand.tmp 0), type := 22, pos := "exact.go:3172", after := #[], guard := none }) (v := ?vr111) rfl (by kernel_rfl) (by kernel_rfl) (by kernel_rfl) (fun _ _ _ h => h) (Or.inl ⟨by rfl, ?hyr111⟩) (by assumption) ?restr111
  case hyr111 =>
    intro w hSw
    (try dsimp only at hSw)
    go_simp
    try with_reducible rfl
  try simp only [Act.put, List.setIfInBounds_toArray, List.set_cons_zero, List.set_cons_succ]
  refine wpAnyH_take (i := 2) (oi := { dst := some 35, op := Op.move (Operand.tmp 1), type := 23, pos := "exact.go:3172", after := #[], guard := none }) (v := ?vr112) rfl (by kernel_rfl) (by kernel_rfl) (by kernel_rfl) (fun _ _ _ h => h) (Or.inl ⟨by rfl, ?hyr112⟩) (by assumption) ?restr112
  case hyr112 =>
    intro w hSw
    (try dsimp only at hSw)
    go_simp
    try with_reducible rfl
  try simp only [Act.put, List.setIfInBounds_toArray, List.set_cons_zero, List.set_cons_succ]
  refine wpAnyH_take (i := 4) (oi := { dst := some 37, op := Op.move (Operand.tmp 2), type := 2, pos := "exact.go:3172", after := #[], guard := none }) (v := ?vr113) rfl (by kernel_rfl) (by kernel_rfl) (by kernel_rfl) (fun _ _ _ h => h) (Or.inl ⟨by rfl, ?hyr113⟩) (by assumption) ?restr113
  case hyr113 =>
    intro w hSw
    (try dsimp only at hSw)
    go_simp
    try with_reducible rfl
  try simp only [Act.put, List.setIfInBounds_toArray, List.set_cons_zero, List.set_cons_succ]
  refine wpAnyH_take (i := 5) (oi := { dst := some 38, op := Op.load 25 (Operand.tmp 7), type := 25, pos := "exact.go:3172", after := #[], guard := none }) (v := ?vr114) rfl (by kernel_rfl) (by kernel_rfl) (by kernel_rfl) (fun _ _ _ h => h) (Or.inl ⟨by rfl, ?hyr114⟩) (by assumption) ?restr114
  case hyr114 =>
    intro w hSw
    (try dsimp only at hSw)
    go_simp
    try with_reducible rfl
  try simp only [Act.put, List.setIfInBounds_toArray, List.set_cons_zero, List.set_cons_succ]
  refine wpAnyH_ready (rs := [1, 8]) (by kernel_rfl) (by simp) ?_
  refine AllReadyH.cons (o := { dst := some 34, op := Op.call { callee := Callee.value (Operand.func 9), args := #[Operand.tmp 33], argTypes := #[22] }, type := 29, pos := "exact.go:3172", after := #[{ on := 0, ground := Ground.data }], guard := none }) rfl (fun K hK => ?_) (AllReadyH.cons (o := { dst := some 10, op := Op.alloc 31, type := 0, pos := "exact.go:3172", after := #[], guard := none }) rfl (fun K hK => ?_) AllReadyH.nil)
  · skip
    go_simp
    refine (KT.out _ (B0.out.trans (Er11d.out.mono B0.out.size))).mono ?_
    rintro e wr11_1 ⟨v1, rfl, s', hb'⟩
    have hbwr11_1 : Below (World.heap w0.drew).size w0.drew wr11_1 := hb'
    have Ewr11_1 : Hid (Below w0.heap.size w0 wr11_1) := Er11d.out.trans (hbwr11_1.mono Er11d.out.size)
    have Qwr11_1_0 := ((bcell Ewr11_1.out).1 _ _ z0).trans q_0
    have Qwr11_1_1 := ((bcell Ewr11_1.out).1 _ _ z0).trans q_1
    have Qwr11_1_2 := ((bcell Ewr11_1.out).1 _ _ z0).trans q_2
    have Qwr11_1_3 := ((bcell Ewr11_1.out).1 _ _ z0).trans q_3
    have ywr11_1 := hbwr11_1.size
    have SAwr11_1 : Hid (SliceF wr11_1 (World.heap w0.drew).size v1 L) := s'
    clear s' hb' hbwr11_1
    try (go_wp2_with fail)
    refine hK.out _ _ ?_ (fun hH1 => ?_)
    · (try dsimp only)
      first | go_keep | (refine ⟨?_, ?_, ?_, ?_⟩ <;> assumption)
    clear hK K hH0
    try simp only [Act.put, List.setIfInBounds_toArray, List.set_cons_zero, List.set_cons_succ]
    refine wpAnyH_ready (rs := [3, 8]) (by kernel_rfl) (by simp) ?_
    refine AllReadyH.cons (o := { dst := some 36, op := Op.call { callee := Callee.value (Operand.func 10), args := #[Operand.tmp 35], argTypes := #[23] }, type := 23, pos := "exact.go:3172", after := #[{ on := 2, ground := Ground.data }, { on := 1, ground := Ground.chain }], guard := none }) rfl (fun K hK => ?_) (AllReadyH.cons (o := { dst := some 10, op := Op.alloc 31, type := 0, pos := "exact.go:3172", after := #[], guard := none }) rfl (fun K hK => ?_) AllReadyH.nil)
    · skip
      go_simp
      refine (KR.out _ (B0.out.trans (Ewr11_1.out.mono B0.out.size))).mono ?_
      rintro e wr11_2 ⟨v2, rfl, s', hb'⟩
      have hbwr11_2 : Below (World.heap wr11_1).size wr11_1 wr11_2 := hb'
      have Ewr11_2 : Hid (Below w0.heap.size w0 wr11_2) := Ewr11_1.out.trans (hbwr11_2.mono Ewr11_1.out.size)
      have Qwr11_2_0 := ((bcell Ewr11_2.out).1 _ _ z0).trans q_0
      have Qwr11_2_1 := ((bcell Ewr11_2.out).1 _ _ z0).trans q_1
      have Qwr11_2_2 := ((bcell Ewr11_2.out).1 _ _ z0).trans q_2
      have Qwr11_2_3 := ((bcell Ewr11_2.out).1 _ _ z0).trans q_3
      have SAwr11_2 : Hid (SliceF wr11_2 (World.heap w0.drew).size v1 L) := SAwr11_1.out.below hbwr11_2
      have ywr11_2 := hbwr11_2.size
      have SBwr11_2 : Hid (SliceS wr11_2 (World.heap wr11_1).size v2 n f) := s'
      clear s' hb' hbwr11_2
      try (go_wp2_with fail)
      refine hK.out _ _ ?_ (fun hH2 => ?_)
      · (try dsimp only)
        first | go_keep | (refine ⟨?_, ?_, ?_, ?_⟩ <;> assumption)
      clear hK K hH1
      try simp only [Act.put, List.setIfInBounds_toArray, List.set_cons_zero, List.set_cons_succ]
      refine wpAnyH_ready (rs := [6, 8]) (by kernel_rfl) (by simp) ?_
      refine AllReadyH.cons (o := { dst := some 39, op := Op.call { callee := Callee.value (Operand.func 11), args := #[Operand.tmp 38], argTypes := #[25] }, type := 35, pos := "exact.go:3172", after := #[{ on := 5, ground := Ground.data }, { on := 3, ground := Ground.chain }], guard := none }) rfl (fun K hK => ?_) (AllReadyH.cons (o := { dst := some 10, op := Op.alloc 31, type := 0, pos := "exact.go:3172", after := #[], guard := none }) rfl (fun K hK => ?_) AllReadyH.nil)
      · skip
        go_simp
        refine (KU.out _).mono ?_
        rintro e wr11_3 ⟨rfl, hb'⟩
        have hbwr11_3 : Below (World.heap wr11_2).size wr11_2 wr11_3 := hb'
        have Ewr11_3 : Hid (Below w0.heap.size w0 wr11_3) := Ewr11_2.out.trans (hbwr11_3.mono Ewr11_2.out.size)
        have Qwr11_3_0 := ((bcell Ewr11_3.out).1 _ _ z0).trans q_0
        have Qwr11_3_1 := ((bcell Ewr11_3.out).1 _ _ z0).trans q_1
        have Qwr11_3_2 := ((bcell Ewr11_3.out).1 _ _ z0).trans q_2
        have Qwr11_3_3 := ((bcell Ewr11_3.out).1 _ _ z0).trans q_3
        have SAwr11_3 : Hid (SliceF wr11_3 (World.heap w0.drew).size v1 L) := SAwr11_2.out.below hbwr11_3
        have SBwr11_3 : Hid (SliceS wr11_3 (World.heap wr11_1).size v2 n f) := SBwr11_2.out.below hbwr11_3
        have ywr11_3 := hbwr11_3.size
        clear hb' hbwr11_3
        try (go_wp2_with fail)
        refine hK.out _ _ ?_ (fun hH3 => ?_)
        · (try dsimp only)
          first | go_keep | (refine ⟨?_, ?_, ?_, ?_⟩ <;> assumption)
        clear hK K hH2
        try simp only [Act.put, List.setIfInBounds_toArray, List.set_cons_zero, List.set_cons_succ]
        refine wpAnyH_ready (rs := [7, 8]) (by kernel_rfl) (by simp) ?_
        refine AllReadyH.cons (o := { dst := some 40, op := Op.call { callee := Callee.value (Operand.func 8), args := #[Operand.tmp 34, Operand.tmp 36, Operand.tmp 37, Operand.tmp 39], argTypes := #[29, 23, 2, 35] }, type := 31, pos := "exact.go:3172", after := #[{ on := 1, ground := Ground.data }, { on := 3, ground := Ground.data }, { on := 4, ground := Ground.data }, { on := 6, ground := Ground.data }, { on := 6, ground := Ground.chain }], guard := none }) rfl (fun K hK => ?_) (AllReadyH.cons (o := { dst := some 10, op := Op.alloc 31, type := 0, pos := "exact.go:3172", after := #[], guard := none }) rfl (fun K hK => ?_) AllReadyH.nil)
        · skip
          go_simp
          refine (KS.out _ _ _ _ _ SAwr11_3.out SBwr11_3.out).mono ?_
          rintro e wr11_4 ⟨vx', rfl, ⟨sx, rfl, sx1⟩, hb'⟩
          obtain ⟨psx, csx, hsx⟩ : ∃ p c, sx = .slice p Z.ar.length c := by obtain ⟨⟨p, cap, e, -⟩, -⟩ := sx1; exact ⟨p, cap, e⟩
          subst hsx
          have hbwr11_4 : Below (World.heap wr11_3).size wr11_3 wr11_4 := hb'
          have Ewr11_4 : Hid (Below w0.heap.size w0 wr11_4) := Ewr11_3.out.trans (hbwr11_4.mono Ewr11_3.out.size)
          have Qwr11_4_0 := ((bcell Ewr11_4.out).1 _ _ z0).trans q_0
          have Qwr11_4_1 := ((bcell Ewr11_4.out).1 _ _ z0).trans q_1
          have Qwr11_4_2 := ((bcell Ewr11_4.out).1 _ _ z0).trans q_2
          have Qwr11_4_3 := ((bcell Ewr11_4.out).1 _ _ z0).trans q_3
          have SAwr11_4 : Hid (SliceF wr11_4 (World.heap w0.drew).size v1 L) := SAwr11_3.out.below hbwr11_4
          have SBwr11_4 : Hid (SliceS wr11_4 (World.heap wr11_1).size v2 n f) := SBwr11_3.out.below hbwr11_4
          have ywr11_4 := hbwr11_4.size
          have SMwr11_4 : Hid (SliceF wr11_4 w0.heap.size (.slice psx Z.ar.length csx) Z.ar) := sx1.mono Ewr11_3.out.size
          clear sx1 hb' hbwr11_4
          try (go_wp2_with fail)
          refine hK.out _ _ ?_ (fun hH4 => ?_)
          · (try dsimp only)
            first | go_keep | (refine ⟨?_, ?_, ?_, ?_⟩ <;> assumption)
          clear hK K hH3
          try simp only [Act.put, List.setIfInBounds_toArray, List.set_cons_zero, List.set_cons_succ]
          refine wpAnyH_ready (rs := [8]) (by kernel_rfl) (by simp) ?_
          refine AllReadyH.cons (o := { dst := some 10, op := Op.alloc 31, type := 0, pos := "exact.go:3172", after := #[], guard := none }) rfl (fun K hK => ?_) AllReadyH.nil
          · skip
            obtain ⟨wr11_5, hwr11_5⟩ : ∃ W, W = World.alloc wr11_4 (.cells #[.slice none 0 0, .int .i64 0, .int .i64 0] 31) := ⟨_, rfl⟩
            have Hwr11_5 : Hid (wr11_5 = World.alloc wr11_4 (.cells #[.slice none 0 0, .int .i64 0, .int .i64 0] 31)) := hwr11_5
            have hbwr11_5 : Below (World.heap wr11_4).size wr11_4 wr11_5 := by rw [hwr11_5]; exact (Below.refl _ _).alloc (Nat.le_refl _) _
            have Ewr11_5 : Hid (Below w0.heap.size w0 wr11_5) := Ewr11_4.out.trans (hbwr11_5.mono Ewr11_4.out.size)
            have Qwr11_5_0 := ((bcell Ewr11_5.out).1 _ _ z0).trans q_0
            have Qwr11_5_1 := ((bcell Ewr11_5.out).1 _ _ z0).trans q_1
            have Qwr11_5_2 := ((bcell Ewr11_5.out).1 _ _ z0).trans q_2
            have Qwr11_5_3 := ((bcell Ewr11_5.out).1 _ _ z0).trans q_3
            have SAwr11_5 : Hid (SliceF wr11_5 (World.heap w0.drew).size v1 L) := SAwr11_4.out.below hbwr11_5
            have SBwr11_5 : Hid (SliceS wr11_5 (World.heap wr11_1).size v2 n f) := SBwr11_4.out.below hbwr11_5
            have SMwr11_5 : Hid (SliceF wr11_5 w0.heap.size (.slice psx Z.ar.length csx) Z.ar) := SMwr11_4.out.below hbwr11_5
            have ywr11_5 := hbwr11_5.size
            obtain ⟨bwr11_5, hqwr11_5⟩ : ∃ b, b = (World.heap wr11_4).size := ⟨_, rfl⟩
            have Hqwr11_5 : Hid (bwr11_5 = (World.heap wr11_4).size) := hqwr11_5
            have Xwr11_5 : Hid (BoxF wr11_5 bwr11_5) := by show BoxF _ _; rw [hwr11_5, hqwr11_5]; exact boxF_made _ _
            have gwr11_5 : bwr11_5 < wr11_5.heap.size := by rw [hwr11_5, hqwr11_5]; simp
            have ewr11_5 : w0.heap.size ≤ bwr11_5 := by rw [hqwr11_5]; exact Ewr11_4.out.size
            have PN : Hid (0 < Z.ar.length → ∃ g, (Value.slice psx Z.ar.length csx).ownBlock = some g ∧ g ≠ bwr11_5) := fun h => by
              obtain ⟨g, e, -, h2⟩ := SMwr11_4.out.1.place h
              exact ⟨g, e, by rw [hqwr11_5]; exact Nat.ne_of_lt h2⟩
            clear hwr11_5 hbwr11_5 hqwr11_5
            go_simp
            rw [← Hwr11_5.out, ← Hqwr11_5.out]
            clear Hwr11_5 Hqwr11_5
            refine hK.out _ _ ?_ (fun hH5 => ?_)
            · (try dsimp only)
              first | go_keep | (refine ⟨?_, ?_, ?_, ?_⟩ <;> assumption)
            clear hK K hH4
            try simp only [Act.put, List.setIfInBounds_toArray, List.set_cons_zero, List.set_cons_succ]
            refine wpAnyH_ready (rs := [9]) (by kernel_rfl) (by simp) ?_
            refine AllReadyH.cons (o := { dst := none, op := Op.store 31 (Operand.tmp 10) (Operand.tmp 40), type := 0, pos := "exact.go:3172", after := #[{ on := 8, ground := Ground.data }, { on := 7, ground := Ground.data }, { on := 7, ground := Ground.chain }, { on := 0, ground := Ground.phase }, { on := 1, ground := Ground.phase }, { on := 2, ground := Ground.phase }, { on := 3, ground := Ground.phase }, { on := 4, ground := Ground.phase }, { on := 5, ground := Ground.phase }, { on := 6, ground := Ground.phase }, { on := 7, ground := Ground.phase }, { on := 8, ground := Ground.phase }], guard := none }) rfl (fun K hK => ?_) AllReadyH.nil
            · skip
              obtain ⟨x0, x1, x2, f0, f1, f2, hlt⟩ := Xwr11_5.out
              have hne : ¬ w.heap.size = bwr11_5 := by have := z0; have := ewr11_5; omega
              obtain ⟨wr11_6, hwr11_6⟩ : ∃ W, W = ((World.setCell wr11_5 ⟨bwr11_5, 0, none⟩ (.slice psx Z.ar.length csx)).setCell ⟨bwr11_5, 1, none⟩ (.int .i64 Z.id)).setCell ⟨bwr11_5, 2, none⟩ (.int .i64 Z.co) := ⟨_, rfl⟩
              have Hwr11_6 : Hid (wr11_6 = ((World.setCell wr11_5 ⟨bwr11_5, 0, none⟩ (.slice psx Z.ar.length csx)).setCell ⟨bwr11_5, 1, none⟩ (.int .i64 Z.id)).setCell ⟨bwr11_5, 2, none⟩ (.int .i64 Z.co)) := hwr11_6
              have Ewr11_6 : Hid (Below w0.heap.size w0 wr11_6) := by show Below _ _ _; rw [hwr11_6]; exact Ewr11_5.out.trans ((store3F_below (Below.refl bwr11_5 wr11_5)).mono ewr11_5)
              have Qwr11_6_0 := ((bcell Ewr11_6.out).1 _ _ z0).trans q_0
              have Qwr11_6_1 := ((bcell Ewr11_6.out).1 _ _ z0).trans q_1
              have Qwr11_6_2 := ((bcell Ewr11_6.out).1 _ _ z0).trans q_2
              have Qwr11_6_3 := ((bcell Ewr11_6.out).1 _ _ z0).trans q_3
              have Iwr11_6 : Hid (InBoxF wr11_6 bwr11_5 (.slice psx Z.ar.length csx) Z) := by show InBoxF _ _ _ _; rw [hwr11_6]; exact inBoxF_stored Xwr11_5.out
              have SMwr11_6 : Hid (SliceF wr11_6 w0.heap.size (.slice psx Z.ar.length csx) Z.ar) := by show SliceF _ _ _ _; rw [hwr11_6]; exact keep_cell (keep_cell (keep_cell SMwr11_5.out PN.out) PN.out) PN.out
              have e_wr11_6 := ewr11_5
              clear hwr11_6
              go_simp
              rw [← Hwr11_6.out]
              clear Hwr11_6
              refine hK.out _ _ ?_ (fun hH6 => ?_)
              · (try dsimp only)
                first | go_keep | (refine ⟨?_, ?_, ?_, ?_⟩ <;> assumption)
              clear hK K hH5
              try simp only [Act.put, List.setIfInBounds_toArray, List.set_cons_zero, List.set_cons_succ]
              refine wpAnyH_done (by kernel_rfl) ?_ _
              exact tail bwr11_5 _ _ _ _ wr11_6 e_wr11_6 Ewr11_6 Iwr11_6 SMwr11_6
        · skip
          obtain ⟨wr11_7, hwr11_7⟩ : ∃ W, W = World.alloc wr11_3 (.cells #[.slice none 0 0, .int .i64 0, .int .i64 0] 31) := ⟨_, rfl⟩
          have Hwr11_7 : Hid (wr11_7 = World.alloc wr11_3 (.cells #[.slice none 0 0, .int .i64 0, .int .i64 0] 31)) := hwr11_7
          have hbwr11_7 : Below (World.heap wr11_3).size wr11_3 wr11_7 := by rw [hwr11_7]; exact (Below.refl _ _).alloc (Nat.le_refl _) _
          have Ewr11_7 : Hid (Below w0.heap.size w0 wr11_7) := Ewr11_3.out.trans (hbwr11_7.mono Ewr11_3.out.size)
          have Qwr11_7_0 := ((bcell Ewr11_7.out).1 _ _ z0).trans q_0
          have Qwr11_7_1 := ((bcell Ewr11_7.out).1 _ _ z0).trans q_1
          have Qwr11_7_2 := ((bcell Ewr11_7.out).1 _ _ z0).trans q_2
          have Qwr11_7_3 := ((bcell Ewr11_7.out).1 _ _ z0).trans q_3
          have SAwr11_7 : Hid (SliceF wr11_7 (World.heap w0.drew).size v1 L) := SAwr11_3.out.below hbwr11_7
          have SBwr11_7 : Hid (SliceS wr11_7 (World.heap wr11_1).size v2 n f) := SBwr11_3.out.below hbwr11_7
          have ywr11_7 := hbwr11_7.size
          obtain ⟨bwr11_7, hqwr11_7⟩ : ∃ b, b = (World.heap wr11_3).size := ⟨_, rfl⟩
          have Hqwr11_7 : Hid (bwr11_7 = (World.heap wr11_3).size) := hqwr11_7
          have Xwr11_7 : Hid (BoxF wr11_7 bwr11_7) := by show BoxF _ _; rw [hwr11_7, hqwr11_7]; exact boxF_made _ _
          have gwr11_7 : bwr11_7 < wr11_7.heap.size := by rw [hwr11_7, hqwr11_7]; simp
          have ewr11_7 : w0.heap.size ≤ bwr11_7 := by rw [hqwr11_7]; exact Ewr11_3.out.size
          clear hwr11_7 hbwr11_7 hqwr11_7
          go_simp
          rw [← Hwr11_7.out, ← Hqwr11_7.out]
          clear Hwr11_7 Hqwr11_7
          refine hK.out _ _ ?_ (fun hH4 => ?_)
          · (try dsimp only)
            first | go_keep | (refine ⟨?_, ?_, ?_, ?_⟩ <;> assumption)
          clear hK K hH3
          try simp only [Act.put, List.setIfInBounds_toArray, List.set_cons_zero, List.set_cons_succ]
          refine wpAnyH_ready (rs := [7]) (by kernel_rfl) (by simp) ?_
          refine AllReadyH.cons (o := { dst := some 40, op := Op.call { callee := Callee.value (Operand.func 8), args := #[Operand.tmp 34, Operand.tmp 36, Operand.tmp 37, Operand.tmp 39], argTypes := #[29, 23, 2, 35] }, type := 31, pos := "exact.go:3172", after := #[{ on := 1, ground := Ground.data }, { on := 3, ground := Ground.data }, { on := 4, ground := Ground.data }, { on := 6, ground := Ground.data }, { on := 6, ground := Ground.chain }], guard := none }) rfl (fun K hK => ?_) AllReadyH.nil
          · skip
            go_simp
            refine (KS.out _ _ _ _ _ SAwr11_7.out SBwr11_7.out).mono ?_
            rintro e wr11_8 ⟨vx', rfl, ⟨sx, rfl, sx1⟩, hb'⟩
            obtain ⟨psx, csx, hsx⟩ : ∃ p c, sx = .slice p Z.ar.length c := by obtain ⟨⟨p, cap, e, -⟩, -⟩ := sx1; exact ⟨p, cap, e⟩
            subst hsx
            have hbwr11_8 : Below (World.heap wr11_7).size wr11_7 wr11_8 := hb'
            have Ewr11_8 : Hid (Below w0.heap.size w0 wr11_8) := Ewr11_7.out.trans (hbwr11_8.mono Ewr11_7.out.size)
            have Qwr11_8_0 := ((bcell Ewr11_8.out).1 _ _ z0).trans q_0
            have Qwr11_8_1 := ((bcell Ewr11_8.out).1 _ _ z0).trans q_1
            have Qwr11_8_2 := ((bcell Ewr11_8.out).1 _ _ z0).trans q_2
            have Qwr11_8_3 := ((bcell Ewr11_8.out).1 _ _ z0).trans q_3
            have SAwr11_8 : Hid (SliceF wr11_8 (World.heap w0.drew).size v1 L) := SAwr11_7.out.below hbwr11_8
            have SBwr11_8 : Hid (SliceS wr11_8 (World.heap wr11_1).size v2 n f) := SBwr11_7.out.below hbwr11_8
            have Xwr11_8 : Hid (BoxF wr11_8 bwr11_7) := Xwr11_7.out.below hbwr11_8
            have ywr11_8 := hbwr11_8.size
            have SMwr11_8 : Hid (SliceF wr11_8 w0.heap.size (.slice psx Z.ar.length csx) Z.ar) := sx1.mono Ewr11_7.out.size
            have PN : Hid (0 < Z.ar.length → ∃ g, (Value.slice psx Z.ar.length csx).ownBlock = some g ∧ g ≠ bwr11_7) := fun h => by
              obtain ⟨g, e, h1, -⟩ := sx1.1.place h
              exact ⟨g, e, by have := Xwr11_7.out.lt; omega⟩
            clear sx1 hb' hbwr11_8
            try (go_wp2_with fail)
            refine hK.out _ _ ?_ (fun hH5 => ?_)
            · (try dsimp only)
              first | go_keep | (refine ⟨?_, ?_, ?_, ?_⟩ <;> assumption)
            clear hK K hH4
            try simp only [Act.put, List.setIfInBounds_toArray, List.set_cons_zero, List.set_cons_succ]
            refine wpAnyH_ready (rs := [9]) (by kernel_rfl) (by simp) ?_
            refine AllReadyH.cons (o := { dst := none, op := Op.store 31 (Operand.tmp 10) (Operand.tmp 40), type := 0, pos := "exact.go:3172", after := #[{ on := 8, ground := Ground.data }, { on := 7, ground := Ground.data }, { on := 7, ground := Ground.chain }, { on := 0, ground := Ground.phase }, { on := 1, ground := Ground.phase }, { on := 2, ground := Ground.phase }, { on := 3, ground := Ground.phase }, { on := 4, ground := Ground.phase }, { on := 5, ground := Ground.phase }, { on := 6, ground := Ground.phase }, { on := 7, ground := Ground.phase }, { on := 8, ground := Ground.phase }], guard := none }) rfl (fun K hK => ?_) AllReadyH.nil
            · skip
              obtain ⟨x0, x1, x2, f0, f1, f2, hlt⟩ := Xwr11_8.out
              have hne : ¬ w.heap.size = bwr11_7 := by have := z0; have := ewr11_7; omega
              obtain ⟨wr11_9, hwr11_9⟩ : ∃ W, W = ((World.setCell wr11_8 ⟨bwr11_7, 0, none⟩ (.slice psx Z.ar.length csx)).setCell ⟨bwr11_7, 1, none⟩ (.int .i64 Z.id)).setCell ⟨bwr11_7, 2, none⟩ (.int .i64 Z.co) := ⟨_, rfl⟩
              have Hwr11_9 : Hid (wr11_9 = ((World.setCell wr11_8 ⟨bwr11_7, 0, none⟩ (.slice psx Z.ar.length csx)).setCell ⟨bwr11_7, 1, none⟩ (.int .i64 Z.id)).setCell ⟨bwr11_7, 2, none⟩ (.int .i64 Z.co)) := hwr11_9
              have Ewr11_9 : Hid (Below w0.heap.size w0 wr11_9) := by show Below _ _ _; rw [hwr11_9]; exact Ewr11_8.out.trans ((store3F_below (Below.refl bwr11_7 wr11_8)).mono ewr11_7)
              have Qwr11_9_0 := ((bcell Ewr11_9.out).1 _ _ z0).trans q_0
              have Qwr11_9_1 := ((bcell Ewr11_9.out).1 _ _ z0).trans q_1
              have Qwr11_9_2 := ((bcell Ewr11_9.out).1 _ _ z0).trans q_2
              have Qwr11_9_3 := ((bcell Ewr11_9.out).1 _ _ z0).trans q_3
              have Iwr11_9 : Hid (InBoxF wr11_9 bwr11_7 (.slice psx Z.ar.length csx) Z) := by show InBoxF _ _ _ _; rw [hwr11_9]; exact inBoxF_stored Xwr11_8.out
              have SMwr11_9 : Hid (SliceF wr11_9 w0.heap.size (.slice psx Z.ar.length csx) Z.ar) := by show SliceF _ _ _ _; rw [hwr11_9]; exact keep_cell (keep_cell (keep_cell SMwr11_8.out PN.out) PN.out) PN.out
              have e_wr11_9 := ewr11_7
              clear hwr11_9
              go_simp
              rw [← Hwr11_9.out]
              clear Hwr11_9
              refine hK.out _ _ ?_ (fun hH6 => ?_)
              · (try dsimp only)
                first | go_keep | (refine ⟨?_, ?_, ?_, ?_⟩ <;> assumption)
              clear hK K hH5
              try simp only [Act.put, List.setIfInBounds_toArray, List.set_cons_zero, List.set_cons_succ]
              refine wpAnyH_done (by kernel_rfl) ?_ _
              exact tail bwr11_7 _ _ _ _ wr11_9 e_wr11_9 Ewr11_9 Iwr11_9 SMwr11_9
      · skip
        obtain ⟨wr11_10, hwr11_10⟩ : ∃ W, W = World.alloc wr11_2 (.cells #[.slice none 0 0, .int .i64 0, .int .i64 0] 31) := ⟨_, rfl⟩
        have Hwr11_10 : Hid (wr11_10 = World.alloc wr11_2 (.cells #[.slice none 0 0, .int .i64 0, .int .i64 0] 31)) := hwr11_10
        have hbwr11_10 : Below (World.heap wr11_2).size wr11_2 wr11_10 := by rw [hwr11_10]; exact (Below.refl _ _).alloc (Nat.le_refl _) _
        have Ewr11_10 : Hid (Below w0.heap.size w0 wr11_10) := Ewr11_2.out.trans (hbwr11_10.mono Ewr11_2.out.size)
        have Qwr11_10_0 := ((bcell Ewr11_10.out).1 _ _ z0).trans q_0
        have Qwr11_10_1 := ((bcell Ewr11_10.out).1 _ _ z0).trans q_1
        have Qwr11_10_2 := ((bcell Ewr11_10.out).1 _ _ z0).trans q_2
        have Qwr11_10_3 := ((bcell Ewr11_10.out).1 _ _ z0).trans q_3
        have SAwr11_10 : Hid (SliceF wr11_10 (World.heap w0.drew).size v1 L) := SAwr11_2.out.below hbwr11_10
        have SBwr11_10 : Hid (SliceS wr11_10 (World.heap wr11_1).size v2 n f) := SBwr11_2.out.below hbwr11_10
        have ywr11_10 := hbwr11_10.size
        obtain ⟨bwr11_10, hqwr11_10⟩ : ∃ b, b = (World.heap wr11_2).size := ⟨_, rfl⟩
        have Hqwr11_10 : Hid (bwr11_10 = (World.heap wr11_2).size) := hqwr11_10
        have Xwr11_10 : Hid (BoxF wr11_10 bwr11_10) := by show BoxF _ _; rw [hwr11_10, hqwr11_10]; exact boxF_made _ _
        have gwr11_10 : bwr11_10 < wr11_10.heap.size := by rw [hwr11_10, hqwr11_10]; simp
        have ewr11_10 : w0.heap.size ≤ bwr11_10 := by rw [hqwr11_10]; exact Ewr11_2.out.size
        clear hwr11_10 hbwr11_10 hqwr11_10
        go_simp
        rw [← Hwr11_10.out, ← Hqwr11_10.out]
        clear Hwr11_10 Hqwr11_10
        refine hK.out _ _ ?_ (fun hH3 => ?_)
        · (try dsimp only)
          first | go_keep | (refine ⟨?_, ?_, ?_, ?_⟩ <;> assumption)
        clear hK K hH2
        try simp only [Act.put, List.setIfInBounds_toArray, List.set_cons_zero, List.set_cons_succ]
        refine wpAnyH_ready (rs := [6]) (by kernel_rfl) (by simp) ?_
        refine AllReadyH.cons (o := { dst := some 39, op := Op.call { callee := Callee.value (Operand.func 11), args := #[Operand.tmp 38], argTypes := #[25] }, type := 35, pos := "exact.go:3172", after := #[{ on := 5, ground := Ground.data }, { on := 3, ground := Ground.chain }], guard := none }) rfl (fun K hK => ?_) AllReadyH.nil
        · skip
          go_simp
          refine (KU.out _).mono ?_
          rintro e wr11_11 ⟨rfl, hb'⟩
          have hbwr11_11 : Below (World.heap wr11_10).size wr11_10 wr11_11 := hb'
          have Ewr11_11 : Hid (Below w0.heap.size w0 wr11_11) := Ewr11_10.out.trans (hbwr11_11.mono Ewr11_10.out.size)
          have Qwr11_11_0 := ((bcell Ewr11_11.out).1 _ _ z0).trans q_0
          have Qwr11_11_1 := ((bcell Ewr11_11.out).1 _ _ z0).trans q_1
          have Qwr11_11_2 := ((bcell Ewr11_11.out).1 _ _ z0).trans q_2
          have Qwr11_11_3 := ((bcell Ewr11_11.out).1 _ _ z0).trans q_3
          have SAwr11_11 : Hid (SliceF wr11_11 (World.heap w0.drew).size v1 L) := SAwr11_10.out.below hbwr11_11
          have SBwr11_11 : Hid (SliceS wr11_11 (World.heap wr11_1).size v2 n f) := SBwr11_10.out.below hbwr11_11
          have Xwr11_11 : Hid (BoxF wr11_11 bwr11_10) := Xwr11_10.out.below hbwr11_11
          have ywr11_11 := hbwr11_11.size
          clear hb' hbwr11_11
          try (go_wp2_with fail)
          refine hK.out _ _ ?_ (fun hH4 => ?_)
          · (try dsimp only)
            first | go_keep | (refine ⟨?_, ?_, ?_, ?_⟩ <;> assumption)
          clear hK K hH3
          try simp only [Act.put, List.setIfInBounds_toArray, List.set_cons_zero, List.set_cons_succ]
          refine wpAnyH_ready (rs := [7]) (by kernel_rfl) (by simp) ?_
          refine AllReadyH.cons (o := { dst := some 40, op := Op.call { callee := Callee.value (Operand.func 8), args := #[Operand.tmp 34, Operand.tmp 36, Operand.tmp 37, Operand.tmp 39], argTypes := #[29, 23, 2, 35] }, type := 31, pos := "exact.go:3172", after := #[{ on := 1, ground := Ground.data }, { on := 3, ground := Ground.data }, { on := 4, ground := Ground.data }, { on := 6, ground := Ground.data }, { on := 6, ground := Ground.chain }], guard := none }) rfl (fun K hK => ?_) AllReadyH.nil
          · skip
            go_simp
            refine (KS.out _ _ _ _ _ SAwr11_11.out SBwr11_11.out).mono ?_
            rintro e wr11_12 ⟨vx', rfl, ⟨sx, rfl, sx1⟩, hb'⟩
            obtain ⟨psx, csx, hsx⟩ : ∃ p c, sx = .slice p Z.ar.length c := by obtain ⟨⟨p, cap, e, -⟩, -⟩ := sx1; exact ⟨p, cap, e⟩
            subst hsx
            have hbwr11_12 : Below (World.heap wr11_11).size wr11_11 wr11_12 := hb'
            have Ewr11_12 : Hid (Below w0.heap.size w0 wr11_12) := Ewr11_11.out.trans (hbwr11_12.mono Ewr11_11.out.size)
            have Qwr11_12_0 := ((bcell Ewr11_12.out).1 _ _ z0).trans q_0
            have Qwr11_12_1 := ((bcell Ewr11_12.out).1 _ _ z0).trans q_1
            have Qwr11_12_2 := ((bcell Ewr11_12.out).1 _ _ z0).trans q_2
            have Qwr11_12_3 := ((bcell Ewr11_12.out).1 _ _ z0).trans q_3
            have SAwr11_12 : Hid (SliceF wr11_12 (World.heap w0.drew).size v1 L) := SAwr11_11.out.below hbwr11_12
            have SBwr11_12 : Hid (SliceS wr11_12 (World.heap wr11_1).size v2 n f) := SBwr11_11.out.below hbwr11_12
            have Xwr11_12 : Hid (BoxF wr11_12 bwr11_10) := Xwr11_11.out.below hbwr11_12
            have ywr11_12 := hbwr11_12.size
            have SMwr11_12 : Hid (SliceF wr11_12 w0.heap.size (.slice psx Z.ar.length csx) Z.ar) := sx1.mono Ewr11_11.out.size
            have PN : Hid (0 < Z.ar.length → ∃ g, (Value.slice psx Z.ar.length csx).ownBlock = some g ∧ g ≠ bwr11_10) := fun h => by
              obtain ⟨g, e, h1, -⟩ := sx1.1.place h
              exact ⟨g, e, by have := Xwr11_11.out.lt; omega⟩
            clear sx1 hb' hbwr11_12
            try (go_wp2_with fail)
            refine hK.out _ _ ?_ (fun hH5 => ?_)
            · (try dsimp only)
              first | go_keep | (refine ⟨?_, ?_, ?_, ?_⟩ <;> assumption)
            clear hK K hH4
            try simp only [Act.put, List.setIfInBounds_toArray, List.set_cons_zero, List.set_cons_succ]
            refine wpAnyH_ready (rs := [9]) (by kernel_rfl) (by simp) ?_
            refine AllReadyH.cons (o := { dst := none, op := Op.store 31 (Operand.tmp 10) (Operand.tmp 40), type := 0, pos := "exact.go:3172", after := #[{ on := 8, ground := Ground.data }, { on := 7, ground := Ground.data }, { on := 7, ground := Ground.chain }, { on := 0, ground := Ground.phase }, { on := 1, ground := Ground.phase }, { on := 2, ground := Ground.phase }, { on := 3, ground := Ground.phase }, { on := 4, ground := Ground.phase }, { on := 5, ground := Ground.phase }, { on := 6, ground := Ground.phase }, { on := 7, ground := Ground.phase }, { on := 8, ground := Ground.phase }], guard := none }) rfl (fun K hK => ?_) AllReadyH.nil
            · skip
              obtain ⟨x0, x1, x2, f0, f1, f2, hlt⟩ := Xwr11_12.out
              have hne : ¬ w.heap.size = bwr11_10 := by have := z0; have := ewr11_10; omega
              obtain ⟨wr11_13, hwr11_13⟩ : ∃ W, W = ((World.setCell wr11_12 ⟨bwr11_10, 0, none⟩ (.slice psx Z.ar.length csx)).setCell ⟨bwr11_10, 1, none⟩ (.int .i64 Z.id)).setCell ⟨bwr11_10, 2, none⟩ (.int .i64 Z.co) := ⟨_, rfl⟩
              have Hwr11_13 : Hid (wr11_13 = ((World.setCell wr11_12 ⟨bwr11_10, 0, none⟩ (.slice psx Z.ar.length csx)).setCell ⟨bwr11_10, 1, none⟩ (.int .i64 Z.id)).setCell ⟨bwr11_10, 2, none⟩ (.int .i64 Z.co)) := hwr11_13
              have Ewr11_13 : Hid (Below w0.heap.size w0 wr11_13) := by show Below _ _ _; rw [hwr11_13]; exact Ewr11_12.out.trans ((store3F_below (Below.refl bwr11_10 wr11_12)).mono ewr11_10)
              have Qwr11_13_0 := ((bcell Ewr11_13.out).1 _ _ z0).trans q_0
              have Qwr11_13_1 := ((bcell Ewr11_13.out).1 _ _ z0).trans q_1
              have Qwr11_13_2 := ((bcell Ewr11_13.out).1 _ _ z0).trans q_2
              have Qwr11_13_3 := ((bcell Ewr11_13.out).1 _ _ z0).trans q_3
              have Iwr11_13 : Hid (InBoxF wr11_13 bwr11_10 (.slice psx Z.ar.length csx) Z) := by show InBoxF _ _ _ _; rw [hwr11_13]; exact inBoxF_stored Xwr11_12.out
              have SMwr11_13 : Hid (SliceF wr11_13 w0.heap.size (.slice psx Z.ar.length csx) Z.ar) := by show SliceF _ _ _ _; rw [hwr11_13]; exact keep_cell (keep_cell (keep_cell SMwr11_12.out PN.out) PN.out) PN.out
              have e_wr11_13 := ewr11_10
              clear hwr11_13
              go_simp
              rw [← Hwr11_13.out]
              clear Hwr11_13
              refine hK.out _ _ ?_ (fun hH6 => ?_)
              · (try dsimp only)
                first | go_keep | (refine ⟨?_, ?_, ?_, ?_⟩ <;> assumption)
              clear hK K hH5
              try simp only [Act.put, List.setIfInBounds_toArray, List.set_cons_zero, List.set_cons_succ]
              refine wpAnyH_done (by kernel_rfl) ?_ _
              exact tail bwr11_10 _ _ _ _ wr11_13 e_wr11_13 Ewr11_13 Iwr11_13 SMwr11_13
    · skip
      obtain ⟨wr11_14, hwr11_14⟩ : ∃ W, W = World.alloc wr11_1 (.cells #[.slice none 0 0, .int .i64 0, .int .i64 0] 31) := ⟨_, rfl⟩
      have Hwr11_14 : Hid (wr11_14 = World.alloc wr11_1 (.cells #[.slice none 0 0, .int .i64 0, .int .i64 0] 31)) := hwr11_14
      have hbwr11_14 : Below (World.heap wr11_1).size wr11_1 wr11_14 := by rw [hwr11_14]; exact (Below.refl _ _).alloc (Nat.le_refl _) _
      have Ewr11_14 : Hid (Below w0.heap.size w0 wr11_14) := Ewr11_1.out.trans (hbwr11_14.mono Ewr11_1.out.size)
      have Qwr11_14_0 := ((bcell Ewr11_14.out).1 _ _ z0).trans q_0
      have Qwr11_14_1 := ((bcell Ewr11_14.out).1 _ _ z0).trans q_1
      have Qwr11_14_2 := ((bcell Ewr11_14.out).1 _ _ z0).trans q_2
      have Qwr11_14_3 := ((bcell Ewr11_14.out).1 _ _ z0).trans q_3
      have SAwr11_14 : Hid (SliceF wr11_14 (World.heap w0.drew).size v1 L) := SAwr11_1.out.below hbwr11_14
      have ywr11_14 := hbwr11_14.size
      obtain ⟨bwr11_14, hqwr11_14⟩ : ∃ b, b = (World.heap wr11_1).size := ⟨_, rfl⟩
      have Hqwr11_14 : Hid (bwr11_14 = (World.heap wr11_1).size) := hqwr11_14
      have Xwr11_14 : Hid (BoxF wr11_14 bwr11_14) := by show BoxF _ _; rw [hwr11_14, hqwr11_14]; exact boxF_made _ _
      have gwr11_14 : bwr11_14 < wr11_14.heap.size := by rw [hwr11_14, hqwr11_14]; simp
      have ewr11_14 : w0.heap.size ≤ bwr11_14 := by rw [hqwr11_14]; exact Ewr11_1.out.size
      clear hwr11_14 hbwr11_14 hqwr11_14
      go_simp
      rw [← Hwr11_14.out, ← Hqwr11_14.out]
      clear Hwr11_14 Hqwr11_14
      refine hK.out _ _ ?_ (fun hH2 => ?_)
      · (try dsimp only)
        first | go_keep | (refine ⟨?_, ?_, ?_, ?_⟩ <;> assumption)
      clear hK K hH1
      try simp only [Act.put, List.setIfInBounds_toArray, List.set_cons_zero, List.set_cons_succ]
      refine wpAnyH_ready (rs := [3]) (by kernel_rfl) (by simp) ?_
      refine AllReadyH.cons (o := { dst := some 36, op := Op.call { callee := Callee.value (Operand.func 10), args := #[Operand.tmp 35], argTypes := #[23] }, type := 23, pos := "exact.go:3172", after := #[{ on := 2, ground := Ground.data }, { on := 1, ground := Ground.chain }], guard := none }) rfl (fun K hK => ?_) AllReadyH.nil
      · skip
        go_simp
        refine (KR.out _ (B0.out.trans (Ewr11_14.out.mono B0.out.size))).mono ?_
        rintro e wr11_15 ⟨v2, rfl, s', hb'⟩
        have hbwr11_15 : Below (World.heap wr11_14).size wr11_14 wr11_15 := hb'
        have Ewr11_15 : Hid (Below w0.heap.size w0 wr11_15) := Ewr11_14.out.trans (hbwr11_15.mono Ewr11_14.out.size)
        have Qwr11_15_0 := ((bcell Ewr11_15.out).1 _ _ z0).trans q_0
        have Qwr11_15_1 := ((bcell Ewr11_15.out).1 _ _ z0).trans q_1
        have Qwr11_15_2 := ((bcell Ewr11_15.out).1 _ _ z0).trans q_2
        have Qwr11_15_3 := ((bcell Ewr11_15.out).1 _ _ z0).trans q_3
        have SAwr11_15 : Hid (SliceF wr11_15 (World.heap w0.drew).size v1 L) := SAwr11_14.out.below hbwr11_15
        have Xwr11_15 : Hid (BoxF wr11_15 bwr11_14) := Xwr11_14.out.below hbwr11_15
        have ywr11_15 := hbwr11_15.size
        have SBwr11_15 : Hid (SliceS wr11_15 (World.heap wr11_14).size v2 n f) := s'
        clear s' hb' hbwr11_15
        try (go_wp2_with fail)
        refine hK.out _ _ ?_ (fun hH3 => ?_)
        · (try dsimp only)
          first | go_keep | (refine ⟨?_, ?_, ?_, ?_⟩ <;> assumption)
        clear hK K hH2
        try simp only [Act.put, List.setIfInBounds_toArray, List.set_cons_zero, List.set_cons_succ]
        refine wpAnyH_ready (rs := [6]) (by kernel_rfl) (by simp) ?_
        refine AllReadyH.cons (o := { dst := some 39, op := Op.call { callee := Callee.value (Operand.func 11), args := #[Operand.tmp 38], argTypes := #[25] }, type := 35, pos := "exact.go:3172", after := #[{ on := 5, ground := Ground.data }, { on := 3, ground := Ground.chain }], guard := none }) rfl (fun K hK => ?_) AllReadyH.nil
        · skip
          go_simp
          refine (KU.out _).mono ?_
          rintro e wr11_16 ⟨rfl, hb'⟩
          have hbwr11_16 : Below (World.heap wr11_15).size wr11_15 wr11_16 := hb'
          have Ewr11_16 : Hid (Below w0.heap.size w0 wr11_16) := Ewr11_15.out.trans (hbwr11_16.mono Ewr11_15.out.size)
          have Qwr11_16_0 := ((bcell Ewr11_16.out).1 _ _ z0).trans q_0
          have Qwr11_16_1 := ((bcell Ewr11_16.out).1 _ _ z0).trans q_1
          have Qwr11_16_2 := ((bcell Ewr11_16.out).1 _ _ z0).trans q_2
          have Qwr11_16_3 := ((bcell Ewr11_16.out).1 _ _ z0).trans q_3
          have SAwr11_16 : Hid (SliceF wr11_16 (World.heap w0.drew).size v1 L) := SAwr11_15.out.below hbwr11_16
          have SBwr11_16 : Hid (SliceS wr11_16 (World.heap wr11_14).size v2 n f) := SBwr11_15.out.below hbwr11_16
          have Xwr11_16 : Hid (BoxF wr11_16 bwr11_14) := Xwr11_15.out.below hbwr11_16
          have ywr11_16 := hbwr11_16.size
          clear hb' hbwr11_16
          try (go_wp2_with fail)
          refine hK.out _ _ ?_ (fun hH4 => ?_)
          · (try dsimp only)
            first | go_keep | (refine ⟨?_, ?_, ?_, ?_⟩ <;> assumption)
          clear hK K hH3
          try simp only [Act.put, List.setIfInBounds_toArray, List.set_cons_zero, List.set_cons_succ]
          refine wpAnyH_ready (rs := [7]) (by kernel_rfl) (by simp) ?_
          refine AllReadyH.cons (o := { dst := some 40, op := Op.call { callee := Callee.value (Operand.func 8), args := #[Operand.tmp 34, Operand.tmp 36, Operand.tmp 37, Operand.tmp 39], argTypes := #[29, 23, 2, 35] }, type := 31, pos := "exact.go:3172", after := #[{ on := 1, ground := Ground.data }, { on := 3, ground := Ground.data }, { on := 4, ground := Ground.data }, { on := 6, ground := Ground.data }, { on := 6, ground := Ground.chain }], guard := none }) rfl (fun K hK => ?_) AllReadyH.nil
          · skip
            go_simp
            refine (KS.out _ _ _ _ _ SAwr11_16.out SBwr11_16.out).mono ?_
            rintro e wr11_17 ⟨vx', rfl, ⟨sx, rfl, sx1⟩, hb'⟩
            obtain ⟨psx, csx, hsx⟩ : ∃ p c, sx = .slice p Z.ar.length c := by obtain ⟨⟨p, cap, e, -⟩, -⟩ := sx1; exact ⟨p, cap, e⟩
            subst hsx
            have hbwr11_17 : Below (World.heap wr11_16).size wr11_16 wr11_17 := hb'
            have Ewr11_17 : Hid (Below w0.heap.size w0 wr11_17) := Ewr11_16.out.trans (hbwr11_17.mono Ewr11_16.out.size)
            have Qwr11_17_0 := ((bcell Ewr11_17.out).1 _ _ z0).trans q_0
            have Qwr11_17_1 := ((bcell Ewr11_17.out).1 _ _ z0).trans q_1
            have Qwr11_17_2 := ((bcell Ewr11_17.out).1 _ _ z0).trans q_2
            have Qwr11_17_3 := ((bcell Ewr11_17.out).1 _ _ z0).trans q_3
            have SAwr11_17 : Hid (SliceF wr11_17 (World.heap w0.drew).size v1 L) := SAwr11_16.out.below hbwr11_17
            have SBwr11_17 : Hid (SliceS wr11_17 (World.heap wr11_14).size v2 n f) := SBwr11_16.out.below hbwr11_17
            have Xwr11_17 : Hid (BoxF wr11_17 bwr11_14) := Xwr11_16.out.below hbwr11_17
            have ywr11_17 := hbwr11_17.size
            have SMwr11_17 : Hid (SliceF wr11_17 w0.heap.size (.slice psx Z.ar.length csx) Z.ar) := sx1.mono Ewr11_16.out.size
            have PN : Hid (0 < Z.ar.length → ∃ g, (Value.slice psx Z.ar.length csx).ownBlock = some g ∧ g ≠ bwr11_14) := fun h => by
              obtain ⟨g, e, h1, -⟩ := sx1.1.place h
              exact ⟨g, e, by have := Xwr11_16.out.lt; omega⟩
            clear sx1 hb' hbwr11_17
            try (go_wp2_with fail)
            refine hK.out _ _ ?_ (fun hH5 => ?_)
            · (try dsimp only)
              first | go_keep | (refine ⟨?_, ?_, ?_, ?_⟩ <;> assumption)
            clear hK K hH4
            try simp only [Act.put, List.setIfInBounds_toArray, List.set_cons_zero, List.set_cons_succ]
            refine wpAnyH_ready (rs := [9]) (by kernel_rfl) (by simp) ?_
            refine AllReadyH.cons (o := { dst := none, op := Op.store 31 (Operand.tmp 10) (Operand.tmp 40), type := 0, pos := "exact.go:3172", after := #[{ on := 8, ground := Ground.data }, { on := 7, ground := Ground.data }, { on := 7, ground := Ground.chain }, { on := 0, ground := Ground.phase }, { on := 1, ground := Ground.phase }, { on := 2, ground := Ground.phase }, { on := 3, ground := Ground.phase }, { on := 4, ground := Ground.phase }, { on := 5, ground := Ground.phase }, { on := 6, ground := Ground.phase }, { on := 7, ground := Ground.phase }, { on := 8, ground := Ground.phase }], guard := none }) rfl (fun K hK => ?_) AllReadyH.nil
            · skip
              obtain ⟨x0, x1, x2, f0, f1, f2, hlt⟩ := Xwr11_17.out
              have hne : ¬ w.heap.size = bwr11_14 := by have := z0; have := ewr11_14; omega
              obtain ⟨wr11_18, hwr11_18⟩ : ∃ W, W = ((World.setCell wr11_17 ⟨bwr11_14, 0, none⟩ (.slice psx Z.ar.length csx)).setCell ⟨bwr11_14, 1, none⟩ (.int .i64 Z.id)).setCell ⟨bwr11_14, 2, none⟩ (.int .i64 Z.co) := ⟨_, rfl⟩
              have Hwr11_18 : Hid (wr11_18 = ((World.setCell wr11_17 ⟨bwr11_14, 0, none⟩ (.slice psx Z.ar.length csx)).setCell ⟨bwr11_14, 1, none⟩ (.int .i64 Z.id)).setCell ⟨bwr11_14, 2, none⟩ (.int .i64 Z.co)) := hwr11_18
              have Ewr11_18 : Hid (Below w0.heap.size w0 wr11_18) := by show Below _ _ _; rw [hwr11_18]; exact Ewr11_17.out.trans ((store3F_below (Below.refl bwr11_14 wr11_17)).mono ewr11_14)
              have Qwr11_18_0 := ((bcell Ewr11_18.out).1 _ _ z0).trans q_0
              have Qwr11_18_1 := ((bcell Ewr11_18.out).1 _ _ z0).trans q_1
              have Qwr11_18_2 := ((bcell Ewr11_18.out).1 _ _ z0).trans q_2
              have Qwr11_18_3 := ((bcell Ewr11_18.out).1 _ _ z0).trans q_3
              have Iwr11_18 : Hid (InBoxF wr11_18 bwr11_14 (.slice psx Z.ar.length csx) Z) := by show InBoxF _ _ _ _; rw [hwr11_18]; exact inBoxF_stored Xwr11_17.out
              have SMwr11_18 : Hid (SliceF wr11_18 w0.heap.size (.slice psx Z.ar.length csx) Z.ar) := by show SliceF _ _ _ _; rw [hwr11_18]; exact keep_cell (keep_cell (keep_cell SMwr11_17.out PN.out) PN.out) PN.out
              have e_wr11_18 := ewr11_14
              clear hwr11_18
              go_simp
              rw [← Hwr11_18.out]
              clear Hwr11_18
              refine hK.out _ _ ?_ (fun hH6 => ?_)
              · (try dsimp only)
                first | go_keep | (refine ⟨?_, ?_, ?_, ?_⟩ <;> assumption)
              clear hK K hH5
              try simp only [Act.put, List.setIfInBounds_toArray, List.set_cons_zero, List.set_cons_succ]
              refine wpAnyH_done (by kernel_rfl) ?_ _
              exact tail bwr11_14 _ _ _ _ wr11_18 e_wr11_18 Ewr11_18 Iwr11_18 SMwr11_18
  · skip
    obtain ⟨wr11_19, hwr11_19⟩ : ∃ W, W = (World.alloc w0 (.cells #[.slice none 0 0, .int .i64 0, .int .i64 0] 31)).drew := ⟨_, rfl⟩
    have Hwr11_19 : Hid (wr11_19 = (World.alloc w0 (.cells #[.slice none 0 0, .int .i64 0, .int .i64 0] 31)).drew) := hwr11_19
    have Ewr11_19 : Hid (Below w0.heap.size w0 wr11_19) := by show Below _ _ _; rw [hwr11_19]; exact ((Below.refl _ _).alloc (Nat.le_refl _) _).drew
    have Qwr11_19_0 := ((bcell Ewr11_19.out).1 _ _ z0).trans q_0
    have Qwr11_19_1 := ((bcell Ewr11_19.out).1 _ _ z0).trans q_1
    have Qwr11_19_2 := ((bcell Ewr11_19.out).1 _ _ z0).trans q_2
    have Qwr11_19_3 := ((bcell Ewr11_19.out).1 _ _ z0).trans q_3
    obtain ⟨bwr11_19, hqwr11_19⟩ : ∃ b, b = w0.heap.size := ⟨_, rfl⟩
    have Hqwr11_19 : Hid (bwr11_19 = w0.heap.size) := hqwr11_19
    have Xwr11_19 : Hid (BoxF wr11_19 bwr11_19) := by show BoxF _ _; rw [hwr11_19, hqwr11_19]; exact (boxF_made _ _).below (Below.refl _ _).drew
    have ewr11_19 : w0.heap.size ≤ bwr11_19 := by rw [hqwr11_19]; exact Nat.le_refl _
    clear hwr11_19 hqwr11_19
    go_simp
    rw [← Hwr11_19.out, ← Hqwr11_19.out]
    clear Hwr11_19 Hqwr11_19
    refine hK.out _ _ ?_ (fun hH1 => ?_)
    · (try dsimp only)
      first | go_keep | (refine ⟨?_, ?_, ?_, ?_⟩ <;> assumption)
    clear hK K hH0
    try simp only [Act.put, List.setIfInBounds_toArray, List.set_cons_zero, List.set_cons_succ]
    refine wpAnyH_ready (rs := [1]) (by kernel_rfl) (by simp) ?_
    refine AllReadyH.cons (o := { dst := some 34, op := Op.call { callee := Callee.value (Operand.func 9), args := #[Operand.tmp 33], argTypes := #[22] }, type := 29, pos := "exact.go:3172", after := #[{ on := 0, ground := Ground.data }], guard := none }) rfl (fun K hK => ?_) AllReadyH.nil
    · skip
      go_simp
      refine (KT.out _ (B0.out.trans (Ewr11_19.out.mono B0.out.size))).mono ?_
      rintro e wr11_20 ⟨v1, rfl, s', hb'⟩
      have hbwr11_20 : Below (World.heap wr11_19).size wr11_19 wr11_20 := hb'
      have Ewr11_20 : Hid (Below w0.heap.size w0 wr11_20) := Ewr11_19.out.trans (hbwr11_20.mono Ewr11_19.out.size)
      have Qwr11_20_0 := ((bcell Ewr11_20.out).1 _ _ z0).trans q_0
      have Qwr11_20_1 := ((bcell Ewr11_20.out).1 _ _ z0).trans q_1
      have Qwr11_20_2 := ((bcell Ewr11_20.out).1 _ _ z0).trans q_2
      have Qwr11_20_3 := ((bcell Ewr11_20.out).1 _ _ z0).trans q_3
      have Xwr11_20 : Hid (BoxF wr11_20 bwr11_19) := Xwr11_19.out.below hbwr11_20
      have ywr11_20 := hbwr11_20.size
      have SAwr11_20 : Hid (SliceF wr11_20 (World.heap wr11_19).size v1 L) := s'
      clear s' hb' hbwr11_20
      try (go_wp2_with fail)
      refine hK.out _ _ ?_ (fun hH2 => ?_)
      · (try dsimp only)
        first | go_keep | (refine ⟨?_, ?_, ?_, ?_⟩ <;> assumption)
      clear hK K hH1
      try simp only [Act.put, List.setIfInBounds_toArray, List.set_cons_zero, List.set_cons_succ]
      refine wpAnyH_ready (rs := [3]) (by kernel_rfl) (by simp) ?_
      refine AllReadyH.cons (o := { dst := some 36, op := Op.call { callee := Callee.value (Operand.func 10), args := #[Operand.tmp 35], argTypes := #[23] }, type := 23, pos := "exact.go:3172", after := #[{ on := 2, ground := Ground.data }, { on := 1, ground := Ground.chain }], guard := none }) rfl (fun K hK => ?_) AllReadyH.nil
      · skip
        go_simp
        refine (KR.out _ (B0.out.trans (Ewr11_20.out.mono B0.out.size))).mono ?_
        rintro e wr11_21 ⟨v2, rfl, s', hb'⟩
        have hbwr11_21 : Below (World.heap wr11_20).size wr11_20 wr11_21 := hb'
        have Ewr11_21 : Hid (Below w0.heap.size w0 wr11_21) := Ewr11_20.out.trans (hbwr11_21.mono Ewr11_20.out.size)
        have Qwr11_21_0 := ((bcell Ewr11_21.out).1 _ _ z0).trans q_0
        have Qwr11_21_1 := ((bcell Ewr11_21.out).1 _ _ z0).trans q_1
        have Qwr11_21_2 := ((bcell Ewr11_21.out).1 _ _ z0).trans q_2
        have Qwr11_21_3 := ((bcell Ewr11_21.out).1 _ _ z0).trans q_3
        have SAwr11_21 : Hid (SliceF wr11_21 (World.heap wr11_19).size v1 L) := SAwr11_20.out.below hbwr11_21
        have Xwr11_21 : Hid (BoxF wr11_21 bwr11_19) := Xwr11_20.out.below hbwr11_21
        have ywr11_21 := hbwr11_21.size
        have SBwr11_21 : Hid (SliceS wr11_21 (World.heap wr11_20).size v2 n f) := s'
        clear s' hb' hbwr11_21
        try (go_wp2_with fail)
        refine hK.out _ _ ?_ (fun hH3 => ?_)
        · (try dsimp only)
          first | go_keep | (refine ⟨?_, ?_, ?_, ?_⟩ <;> assumption)
        clear hK K hH2
        try simp only [Act.put, List.setIfInBounds_toArray, List.set_cons_zero, List.set_cons_succ]
        refine wpAnyH_ready (rs := [6]) (by kernel_rfl) (by simp) ?_
        refine AllReadyH.cons (o := { dst := some 39, op := Op.call { callee := Callee.value (Operand.func 11), args := #[Operand.tmp 38], argTypes := #[25] }, type := 35, pos := "exact.go:3172", after := #[{ on := 5, ground := Ground.data }, { on := 3, ground := Ground.chain }], guard := none }) rfl (fun K hK => ?_) AllReadyH.nil
        · skip
          go_simp
          refine (KU.out _).mono ?_
          rintro e wr11_22 ⟨rfl, hb'⟩
          have hbwr11_22 : Below (World.heap wr11_21).size wr11_21 wr11_22 := hb'
          have Ewr11_22 : Hid (Below w0.heap.size w0 wr11_22) := Ewr11_21.out.trans (hbwr11_22.mono Ewr11_21.out.size)
          have Qwr11_22_0 := ((bcell Ewr11_22.out).1 _ _ z0).trans q_0
          have Qwr11_22_1 := ((bcell Ewr11_22.out).1 _ _ z0).trans q_1
          have Qwr11_22_2 := ((bcell Ewr11_22.out).1 _ _ z0).trans q_2
          have Qwr11_22_3 := ((bcell Ewr11_22.out).1 _ _ z0).trans q_3
          have SAwr11_22 : Hid (SliceF wr11_22 (World.heap wr11_19).size v1 L) := SAwr11_21.out.below hbwr11_22
          have SBwr11_22 : Hid (SliceS wr11_22 (World.heap wr11_20).size v2 n f) := SBwr11_21.out.below hbwr11_22
          have Xwr11_22 : Hid (BoxF wr11_22 bwr11_19) := Xwr11_21.out.below hbwr11_22
          have ywr11_22 := hbwr11_22.size
          clear hb' hbwr11_22
          try (go_wp2_with fail)
          refine hK.out _ _ ?_ (fun hH4 => ?_)
          · (try dsimp only)
            first | go_keep | (refine ⟨?_, ?_, ?_, ?_⟩ <;> assumption)
          clear hK K hH3
          try simp only [Act.put, List.setIfInBounds_toArray, List.set_cons_zero, List.set_cons_succ]
          refine wpAnyH_ready (rs := [7]) (by kernel_rfl) (by simp) ?_
          refine AllReadyH.cons (o := { dst := some 40, op := Op.call { callee := Callee.value (Operand.func 8), args := #[Operand.tmp 34, Operand.tmp 36, Operand.tmp 37, Operand.tmp 39], argTypes := #[29, 23, 2, 35] }, type := 31, pos := "exact.go:3172", after := #[{ on := 1, ground := Ground.data }, { on := 3, ground := Ground.data }, { on := 4, ground := Ground.data }, { on := 6, ground := Ground.data }, { on := 6, ground := Ground.chain }], guard := none }) rfl (fun K hK => ?_) AllReadyH.nil
          · skip
            go_simp
            refine (KS.out _ _ _ _ _ SAwr11_22.out SBwr11_22.out).mono ?_
            rintro e wr11_23 ⟨vx', rfl, ⟨sx, rfl, sx1⟩, hb'⟩
            obtain ⟨psx, csx, hsx⟩ : ∃ p c, sx = .slice p Z.ar.length c := by obtain ⟨⟨p, cap, e, -⟩, -⟩ := sx1; exact ⟨p, cap, e⟩
            subst hsx
            have hbwr11_23 : Below (World.heap wr11_22).size wr11_22 wr11_23 := hb'
            have Ewr11_23 : Hid (Below w0.heap.size w0 wr11_23) := Ewr11_22.out.trans (hbwr11_23.mono Ewr11_22.out.size)
            have Qwr11_23_0 := ((bcell Ewr11_23.out).1 _ _ z0).trans q_0
            have Qwr11_23_1 := ((bcell Ewr11_23.out).1 _ _ z0).trans q_1
            have Qwr11_23_2 := ((bcell Ewr11_23.out).1 _ _ z0).trans q_2
            have Qwr11_23_3 := ((bcell Ewr11_23.out).1 _ _ z0).trans q_3
            have SAwr11_23 : Hid (SliceF wr11_23 (World.heap wr11_19).size v1 L) := SAwr11_22.out.below hbwr11_23
            have SBwr11_23 : Hid (SliceS wr11_23 (World.heap wr11_20).size v2 n f) := SBwr11_22.out.below hbwr11_23
            have Xwr11_23 : Hid (BoxF wr11_23 bwr11_19) := Xwr11_22.out.below hbwr11_23
            have ywr11_23 := hbwr11_23.size
            have SMwr11_23 : Hid (SliceF wr11_23 w0.heap.size (.slice psx Z.ar.length csx) Z.ar) := sx1.mono Ewr11_22.out.size
            have PN : Hid (0 < Z.ar.length → ∃ g, (Value.slice psx Z.ar.length csx).ownBlock = some g ∧ g ≠ bwr11_19) := fun h => by
              obtain ⟨g, e, h1, -⟩ := sx1.1.place h
              exact ⟨g, e, by have := Xwr11_22.out.lt; omega⟩
            clear sx1 hb' hbwr11_23
            try (go_wp2_with fail)
            refine hK.out _ _ ?_ (fun hH5 => ?_)
            · (try dsimp only)
              first | go_keep | (refine ⟨?_, ?_, ?_, ?_⟩ <;> assumption)
            clear hK K hH4
            try simp only [Act.put, List.setIfInBounds_toArray, List.set_cons_zero, List.set_cons_succ]
            refine wpAnyH_ready (rs := [9]) (by kernel_rfl) (by simp) ?_
            refine AllReadyH.cons (o := { dst := none, op := Op.store 31 (Operand.tmp 10) (Operand.tmp 40), type := 0, pos := "exact.go:3172", after := #[{ on := 8, ground := Ground.data }, { on := 7, ground := Ground.data }, { on := 7, ground := Ground.chain }, { on := 0, ground := Ground.phase }, { on := 1, ground := Ground.phase }, { on := 2, ground := Ground.phase }, { on := 3, ground := Ground.phase }, { on := 4, ground := Ground.phase }, { on := 5, ground := Ground.phase }, { on := 6, ground := Ground.phase }, { on := 7, ground := Ground.phase }, { on := 8, ground := Ground.phase }], guard := none }) rfl (fun K hK => ?_) AllReadyH.nil
            · skip
              obtain ⟨x0, x1, x2, f0, f1, f2, hlt⟩ := Xwr11_23.out
              have hne : ¬ w.heap.size = bwr11_19 := by have := z0; have := ewr11_19; omega
              obtain ⟨wr11_24, hwr11_24⟩ : ∃ W, W = ((World.setCell wr11_23 ⟨bwr11_19, 0, none⟩ (.slice psx Z.ar.length csx)).setCell ⟨bwr11_19, 1, none⟩ (.int .i64 Z.id)).setCell ⟨bwr11_19, 2, none⟩ (.int .i64 Z.co) := ⟨_, rfl⟩
              have Hwr11_24 : Hid (wr11_24 = ((World.setCell wr11_23 ⟨bwr11_19, 0, none⟩ (.slice psx Z.ar.length csx)).setCell ⟨bwr11_19, 1, none⟩ (.int .i64 Z.id)).setCell ⟨bwr11_19, 2, none⟩ (.int .i64 Z.co)) := hwr11_24
              have Ewr11_24 : Hid (Below w0.heap.size w0 wr11_24) := by show Below _ _ _; rw [hwr11_24]; exact Ewr11_23.out.trans ((store3F_below (Below.refl bwr11_19 wr11_23)).mono ewr11_19)
              have Qwr11_24_0 := ((bcell Ewr11_24.out).1 _ _ z0).trans q_0
              have Qwr11_24_1 := ((bcell Ewr11_24.out).1 _ _ z0).trans q_1
              have Qwr11_24_2 := ((bcell Ewr11_24.out).1 _ _ z0).trans q_2
              have Qwr11_24_3 := ((bcell Ewr11_24.out).1 _ _ z0).trans q_3
              have Iwr11_24 : Hid (InBoxF wr11_24 bwr11_19 (.slice psx Z.ar.length csx) Z) := by show InBoxF _ _ _ _; rw [hwr11_24]; exact inBoxF_stored Xwr11_23.out
              have SMwr11_24 : Hid (SliceF wr11_24 w0.heap.size (.slice psx Z.ar.length csx) Z.ar) := by show SliceF _ _ _ _; rw [hwr11_24]; exact keep_cell (keep_cell (keep_cell SMwr11_23.out PN.out) PN.out) PN.out
              have e_wr11_24 := ewr11_19
              clear hwr11_24
              go_simp
              rw [← Hwr11_24.out]
              clear Hwr11_24
              refine hK.out _ _ ?_ (fun hH6 => ?_)
              · (try dsimp only)
                first | go_keep | (refine ⟨?_, ?_, ?_, ?_⟩ <;> assumption)
              clear hK K hH5
              try simp only [Act.put, List.setIfInBounds_toArray, List.set_cons_zero, List.set_cons_succ]
              refine wpAnyH_done (by kernel_rfl) ?_ _
              exact tail bwr11_19 _ _ _ _ wr11_24 e_wr11_24 Ewr11_24 Iwr11_24 SMwr11_24
end Go.Proofs.YtclpamjgglfljaaDoor

/- The lifting of a law's walk to a row that lists package-level variables, the world's shape kept; what the shape and the list give a walk. -/
namespace Go.Proofs.YtclpamjgglfljaaDoor
open Go.RowKit

theorem Ld.own : ownKnob Tryd.prog.godebug = none := by kernel_rfl
theorem Ld.laidOut : laidOutB Tryd.prog = true := by kernel_rfl
set_option maxRecDepth 10000 in
theorem lift_laid {H : Type} {enc : TypeId × Value → H} {os : Os} {f : FuncId} {fn : Func} {s : ChangeSpec} {X : World → Prop} (hX : ∀ (w w' : World), w.heap = w'.heap → X w → X w')
    (started : os.Started) (noInit : Tryd.prog.inits.idxOf? f = none) (hfn : Tryd.prog.funcs[f]? = some fn)
    (start : ∃ (w : World) (tape : Tape) (i : Input), w.os = os ∧ (w.forCall tape i).Shaped Tryd.prog ∧ i.vars = [] ∧ Input.okWide Tryd.prog (w.forCall tape i) .any w.heap.size f i ∧
      ((s.pre enc Tryd.prog fn [] false (w.forCall tape i).memory i.args ∧ X (w.forCall tape i).memory) ∧ sizedMet enc Tryd.prog fn (OpenSpec.ofChange s) false (w.forCall tape i).memory i.args) ∧ Assume.holds {} Tryd.prog (lone (Frame.enter Tryd.prog f i.args .normal) [] (w.forCall tape i)))
    (walk : ∀ (W : World) (base : Nat) (args : Array Value) (ds gs : List (DataW H)) (before : List MemPlace),
      (∀ (j : Nat) t v, fn.params[j]? = some t → args[j]? = some v → Value.okWide Tryd.prog W .any base t v) →
      DataW.Whole enc Tryd.prog fn.params.toList s.vars false W args.toList ds gs before → X W → W.ShapedOpen Tryd.prog →
      Calls Tryd.prog f args W fun e W' => ∃ v, e = .returned v ∧ s.post enc Tryd.prog fn false true false false W args v W') :
    ReturnsInHanded {} Tryd.checked os f .any (fun w args => (s.pre enc Tryd.prog fn [] false w args ∧ X w) ∧ sizedMet enc Tryd.prog fn (OpenSpec.ofChange s) false w args) (s.post enc Tryd.prog fn false true false false) := by
  refine returnsInHanded_of_calls (C := Tryd.checked) Ld.own started noInit start ?_
  intro w tape i _ hsh _ hok hpre _
  obtain ⟨_, _, _, fn2, hfn2, _, _, _, _, hval⟩ := hok
  obtain rfl : fn2 = fn := Option.some.inj (hfn2.symm.trans hfn)
  obtain ⟨⟨⟨ds, gs, before, hw, _⟩, hx⟩, _⟩ := hpre
  have hw2 := DataW.Whole.of_heap (w' := w.forCall tape i) (by rfl) hw
  refine (walk (w.forCall tape i) w.heap.size i.args ds gs before hval hw2 (hX _ _ (by rfl) hx) hsh).mono fun e W' ⟨v, he, hp⟩ => ?_
  subst he
  exact ChangeSpec.post_blind hp
set_option maxRecDepth 10000 in
theorem maxI_of_shape {W : World} (h : W.ShapedOpen Tryd.prog) : MaxI W := Tryd.lays146.s1_3 W h
end Go.Proofs.YtclpamjgglfljaaDoor

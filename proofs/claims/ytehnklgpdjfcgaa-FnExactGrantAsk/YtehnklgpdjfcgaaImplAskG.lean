/- The walks of the program's judge and GrantAsk. -/
import Derived.Test.YtehnklgpdjfcgaaAskT
import Derived.Test.YtehnklgpdjfcgaaImplTold
import Derived.Test.YtehnklgpdjfcgaaImplPutG
namespace Go.Proofs.Ytehnklgpdjfcgaa
open Go.RowKit

theorem https_call (s : ByteArray) (w : World) : Calls Try.prog 79 #[.string s, .string ⟨#[104, 116, 116, 112, 115, 58, 47, 47]⟩] w fun e w' => e = .returned (.bool (httpsB s)) ∧ w' = w :=
  Any.strings_HasPrefix Try.lays99 s ⟨#[104, 116, 116, 112, 115, 58, 47, 47]⟩ w
/-- what is told is the answer -/
def TellG (w : World) (B : Nat) (v : Verd) (x : GO) : Prop := AnsG w B (toldV v) x
theorem tell_no (w : World) (B : Nat) (c : Int) : TellG w B (.no c) (noG c) := ⟨_, rfl, sliceG_none _ _⟩
set_option maxRecDepth 10000 in
set_option maxHeartbeats 8000000 in
theorem judge_any (v : Value) (L : List Gr) (a : Aq) (now : Int) (B : Nat) (w : World) (hs : SliceG w B v L) (hn : L.length ≤ 1048576) (h1 : a.tp.size ≤ 1048576) (h2 : a.si.size ≤ 1048576) :
    Calls Try.prog 60 #[v, aqV a, .int .i64 now] w fun e w' => ∃ vd, e = .returned (verdV vd) ∧ TellG w' w.heap.size vd (askG L a now) ∧ Below w.heap.size w w' := by
  have KM0 : ∀ W, Below w.heap.size w W → Calls Try.prog 53 #[v, leaveV a.tp a.si, .int .i64 now] W fun e w' => e = .returned (.bool (mayG L a.tp a.si now)) ∧ Below W.heap.size W w' := fun W hb => mayAsk_any v L a.tp a.si now B W (hs.below hb) hn
  have KI0 : ∀ W, Below w.heap.size w W → Calls Try.prog 67 #[leaveV a.tp a.si, v, .int .i64 now] W fun e w' => e = .returned (.bool (hereG L a.tp a.si now)) ∧ Below W.heap.size W w' := fun W hb => liveIn_any v L a.tp a.si now B W (hs.below hb) hn
  have KC : Hid (mayG L a.tp a.si now = true → ∀ W, Below w.heap.size w W → Calls Try.prog 43 #[v, .func (.func 44) #[] #[]] W fun e w' => ∃ v', e = .returned v' ∧ SliceG w' W.heap.size v' L ∧ Below W.heap.size W w') := fun h W hb => grantCopies_any v L B W (hs.below hb) hn (grants_small (mayG_parts h).1)
  have KP0 : mayG L a.tp a.si now = true → ∀ W, Below w.heap.size w W → Calls Try.prog 18 #[v, .string a.tp, .string a.si, .int .i64 now] W fun e w' => ∃ v', e = .returned v' ∧ AnsG w' W.heap.size v' (putR L a.tp a.si now) ∧ Below W.heap.size W w' := fun h W hb => by
    have := grantPut_any v L a.tp a.si now B W (hs.below hb) hn h1 h2
    rw [put_may h] at this
    exact this
  have KH0 : ∀ W, Calls Try.prog 79 #[.string a.si, .string ⟨#[104, 116, 116, 112, 115, 58, 47, 47]⟩] W fun e w' => e = .returned (.bool (httpsB a.si)) ∧ w' = W := fun W => https_call _ W
  have HN2 : Hid (¬ L.length ≤ 400 → askG L a now = noG 2) := fun h => by unfold askG; rw [if_neg h]
  have HN1 : Hid (L.length ≤ 400 → mayG L a.tp a.si now = false → askG L a now = noG 1) := fun h h2 => by unfold askG; rw [if_pos h, if_neg (by rw [h2]; decide)]
  have HY : Hid (L.length ≤ 400 → mayG L a.tp a.si now = true → askG L a now =
      if ((a.tp.toList == a.si.toList) || hereG L a.tp a.si now) = true then ⟨L, false, 0⟩
      else if (a.sa || !(httpsB a.si)) = true then noG 11
      else if a.tc = false then noG 10
      else if (!a.re && !a.ye) = true then ⟨L, true, 11⟩
      else ⟨(putR L a.tp a.si now).ar, true, (putR L a.tp a.si now).co⟩) := fun h h2 => by unfold askG; rw [if_pos h, if_pos h2]; rfl
  obtain ⟨⟨q, cap, rfl, -⟩, -⟩ := hs
  generalize askG L a now = Z at *
  generalize putR L a.tp a.si now = Y at *
  generalize hereG L a.tp a.si now = rl at *
  obtain ⟨tp, si, tc, sa, re, ye⟩ := a
  unfold aqV leaveV at *
  dsimp only at *
  have KM : Hid (∀ W, Below w.heap.size w W → Calls Try.prog 53 #[.slice q L.length cap, .agg #[.string tp, .string si], .int .i64 now] W fun e w' => e = .returned (.bool (mayG L tp si now)) ∧ Below W.heap.size W w') := KM0
  have KI : Hid (∀ W, Below w.heap.size w W → Calls Try.prog 67 #[.agg #[.string tp, .string si], .slice q L.length cap, .int .i64 now] W fun e w' => e = .returned (.bool rl) ∧ Below W.heap.size W w') := KI0
  have KP : Hid (mayG L tp si now = true → ∀ W, Below w.heap.size w W → Calls Try.prog 18 #[.slice q L.length cap, .string tp, .string si, .int .i64 now] W fun e w' => ∃ v', e = .returned v' ∧ AnsG w' W.heap.size v' Y ∧ Below W.heap.size W w') := KP0
  have KH : Hid (∀ W, Calls Try.prog 79 #[.string si, .string ⟨#[104, 116, 116, 112, 115, 58, 47, 47]⟩] W fun e w' => e = .returned (.bool (httpsB si)) ∧ w' = W) := KH0
  clear KM0 KI0 KP0 KH0
  generalize mayG L tp si now = my at *
  generalize httpsB si = hp at *
  obtain ⟨W0, hW⟩ : ∃ W0, W0 = w.alloc (.cells #[.string tp, .string si, .bool tc, .bool sa, .bool re, .bool ye] 42) := ⟨_, rfl⟩
  have hW0 : Hid (W0 = w.alloc (.cells #[.string tp, .string si, .bool tc, .bool sa, .bool re, .bool ye] 42)) := hW
  have B0 : Hid (Below w.heap.size w W0) := by show Below _ _ _; rw [hW]; exact (Below.refl _ _).alloc (Nat.le_refl _) _
  have a0 : W0.cell? ⟨w.heap.size, 0, none⟩ = some (.string tp) := by rw [hW]; simp
  have a1 : W0.cell? ⟨w.heap.size, 1, none⟩ = some (.string si) := by rw [hW]; simp
  have a2 : W0.cell? ⟨w.heap.size, 2, none⟩ = some (.bool tc) := by rw [hW]; simp
  have a3 : W0.cell? ⟨w.heap.size, 3, none⟩ = some (.bool sa) := by rw [hW]; simp
  have a4 : W0.cell? ⟨w.heap.size, 4, none⟩ = some (.bool re) := by rw [hW]; simp
  have a5 : W0.cell? ⟨w.heap.size, 5, none⟩ = some (.bool ye) := by rw [hW]; simp
  have z0 : w.heap.size < W0.heap.size := by rw [hW]; simp
  clear hW
  by_cases c1 : 400 < L.length
  case pos =>
    have HR : Hid (Z = noG 2) := HN2.out (by omega)
    have q1 : decide ((400 : Int) < (L.length : Int)) = true := by rw [decide_eq_true_iff]; omega
    go_enter Try.func60, Try.ntmps60
    go_upto_region 1 with fail
    rw [← hW0.out]
    clear hW0
    go_wp2
    go_ret
    exact ⟨.no 2, rfl, by rw [HR.out]; exact tell_no _ _ _, B0.out⟩
  have q1 : decide ((400 : Int) < (L.length : Int)) = false := by rw [decide_eq_false_iff_not]; omega
  have HN1b : Hid (my = false → Z = noG 1) := HN1.out (by omega)
  have HYb := HY.out (by omega)
  have HYc : Hid (my = true → Z =
      if ((tp.toList == si.toList) || rl) = true then ⟨L, false, 0⟩
      else if (sa || !hp) = true then noG 11
      else if tc = false then noG 10
      else if (!re && !ye) = true then ⟨L, true, 11⟩
      else ⟨Y.ar, true, Y.co⟩) := HYb
  clear HN2 HN1 HY HYb c1
  obtain ⟨W1, hV⟩ : ∃ W1, W1 = W0.alloc (.cells #[.string tp, .string si] 73) := ⟨_, rfl⟩
  have hW1 : Hid (W1 = W0.alloc (.cells #[.string tp, .string si] 73)) := hV
  have A1 : Below W0.heap.size W0 W1 := by rw [hV]; exact (Below.refl _ _).alloc (Nat.le_refl _) _
  have B1 : Hid (Below w.heap.size w W1) := B0.out.trans (A1.mono B0.out.size)
  have l0 : W1.cell? ⟨W0.heap.size, 0, none⟩ = some (.string tp) := by rw [hV]; simp
  have l1 : W1.cell? ⟨W0.heap.size, 1, none⟩ = some (.string si) := by rw [hV]; simp
  have b0 := ((bcell A1).1 _ _ z0).trans a0
  have b1 := ((bcell A1).1 _ _ z0).trans a1
  have b2 := ((bcell A1).1 _ _ z0).trans a2
  have b3 := ((bcell A1).1 _ _ z0).trans a3
  have b4 := ((bcell A1).1 _ _ z0).trans a4
  have b5 := ((bcell A1).1 _ _ z0).trans a5
  have zl : W0.heap.size < W1.heap.size := by rw [hV]; simp
  clear hV A1 B0
  go_enter Try.func60, Try.ntmps60
  go_upto_region 1 with fail
  rw [← hW0.out]
  clear hW0
  go_upto_region 4 with fail
  rw [← hW1.out]
  clear hW1 a0 a1 a2 a3 a4 a5
  generalize hbl : W0.heap.size = bl at *
  generalize hbb : w.heap.size = b at *
  go_wp2_with fail
  refine (KM.out _ B1.out).mono ?_
  rintro e w2 ⟨rfl, hb2⟩
  have B2 : Hid (Below b w w2) := B1.out.trans (hb2.mono (by omega))
  have m0 : w2.cell? ⟨bl, 0, none⟩ = some (.string tp) := ((bcell hb2).1 _ _ zl).trans l0
  have m1 : w2.cell? ⟨bl, 1, none⟩ = some (.string si) := ((bcell hb2).1 _ _ zl).trans l1
  have zb1 : b < W1.heap.size := by omega
  have c0 := ((bcell hb2).1 _ _ zb1).trans b0
  have c1 := ((bcell hb2).1 _ _ zb1).trans b1
  have c2 := ((bcell hb2).1 _ _ zb1).trans b2
  have c3 := ((bcell hb2).1 _ _ zb1).trans b3
  have c4 := ((bcell hb2).1 _ _ zb1).trans b4
  have c5 := ((bcell hb2).1 _ _ zb1).trans b5
  have z2 : bl < w2.heap.size := Nat.lt_of_lt_of_le zl hb2.size
  clear hb2 l0 l1 b0 b1 b2 b3 b4 b5 B1 KM zb1
  cases my with
  | false =>
    have HR : Hid (Z = noG 1) := HN1b.out rfl
    go_wp2
    go_ret
    exact ⟨.no 1, rfl, by rw [HR.out]; exact tell_no _ _ _, by rw [hbb]; exact B2.out⟩
  | true =>
  have HYd := HYc.out rfl
  have HR : Hid (Z =
      if ((tp.toList == si.toList) || rl) = true then ⟨L, false, 0⟩
      else if (sa || !hp) = true then noG 11
      else if tc = false then noG 10
      else if (!re && !ye) = true then ⟨L, true, 11⟩
      else ⟨Y.ar, true, Y.co⟩) := HYd
  have KC2 := KC.out rfl
  have KP2 := KP.out rfl
  have KC3 : Hid (∀ W, Below b w W → Calls Try.prog 43 #[.slice q L.length cap, .func (.func 44) #[] #[]] W fun e w' => ∃ v', e = .returned v' ∧ SliceG w' W.heap.size v' L ∧ Below W.heap.size W w') := KC2
  have KP3 : Hid (∀ W, Below b w W → Calls Try.prog 18 #[.slice q L.length cap, .string tp, .string si, .int .i64 now] W fun e w' => ∃ v', e = .returned v' ∧ AnsG w' W.heap.size v' Y ∧ Below W.heap.size W w') := KP2
  clear KC KP KC2 KP2 HYc HYd HN1b
  cases heq : (tp.toList == si.toList) with
  | true =>
    have HR2 : Hid (Z = ⟨L, false, 0⟩) := by show _ = _; rw [HR.out, heq]; rfl
    clear HR
    go_wp2_with fail
    refine (KC3.out _ B2.out).mono ?_
    rintro e w3 ⟨u3, rfl, hs3, hb3⟩
    have S3 : Hid (SliceG w3 w2.heap.size u3 L) := hs3
    have B3 : Hid (Below b w w3) := B2.out.trans (hb3.mono (by omega))
    obtain ⟨pu, cu, hu3⟩ : ∃ pu cu, u3 = .slice pu L.length cu := by obtain ⟨⟨p, c, e, -⟩, -⟩ := hs3; exact ⟨p, c, e⟩
    clear hs3 hb3
    subst hu3
    go_wp2
    go_ret
    exact ⟨.same pu L.length cu, rfl, by rw [HR2.out, hbb]; exact ⟨_, rfl, S3.out.mono (by omega)⟩, by rw [hbb]; exact B3.out⟩
  | false =>
  go_wp2_with fail
  refine (KI.out _ B2.out).mono ?_
  rintro e w3 ⟨rfl, hb3⟩
  have B3 : Hid (Below b w w3) := B2.out.trans (hb3.mono (by omega))
  have z3 : bl < w3.heap.size := Nat.lt_of_lt_of_le z2 hb3.size
  have zb2 : b < w2.heap.size := by omega
  have d0 := ((bcell hb3).1 _ _ zb2).trans c0
  have d1 := ((bcell hb3).1 _ _ zb2).trans c1
  have d2 := ((bcell hb3).1 _ _ zb2).trans c2
  have d3 := ((bcell hb3).1 _ _ zb2).trans c3
  have d4 := ((bcell hb3).1 _ _ zb2).trans c4
  have d5 := ((bcell hb3).1 _ _ zb2).trans c5
  clear hb3 B2 c0 c1 c2 c3 c4 c5 m0 m1 KI zb2
  cases rl with
  | true =>
    have HR2 : Hid (Z = ⟨L, false, 0⟩) := by show _ = _; rw [HR.out, heq]; rfl
    clear HR
    go_wp2_with fail
    refine (KC3.out _ B3.out).mono ?_
    rintro e w4 ⟨u4, rfl, hs4, hb4⟩
    have S4 : Hid (SliceG w4 w3.heap.size u4 L) := hs4
    have B4 : Hid (Below b w w4) := B3.out.trans (hb4.mono (by omega))
    obtain ⟨pu, cu, hu4⟩ : ∃ pu cu, u4 = .slice pu L.length cu := by obtain ⟨⟨p, c, e, -⟩, -⟩ := hs4; exact ⟨p, c, e⟩
    clear hs4 hb4
    subst hu4
    go_wp2
    go_ret
    exact ⟨.same pu L.length cu, rfl, by rw [HR2.out, hbb]; exact ⟨_, rfl, S4.out.mono (by omega)⟩, by rw [hbb]; exact B4.out⟩
  | false =>
  have HR1 : Hid (Z = if (sa || !hp) = true then noG 11 else if tc = false then noG 10 else if (!re && !ye) = true then ⟨L, true, 11⟩ else ⟨Y.ar, true, Y.co⟩) := by show _ = _; rw [HR.out, heq]; rfl
  clear HR
  cases sa with
  | true =>
    have HR2 : Hid (Z = noG 11) := HR1.out
    go_wp2
    go_ret
    exact ⟨.no 11, rfl, by rw [HR2.out]; exact tell_no _ _ _, by rw [hbb]; exact B3.out⟩
  | false =>
  go_wp2_with fail
  refine (KH.out _).mono ?_
  rintro e w4 ⟨rfl, rfl⟩
  cases hp with
  | false =>
    have HR2 : Hid (Z = noG 11) := HR1.out
    go_wp2
    go_ret
    exact ⟨.no 11, rfl, by rw [HR2.out]; exact tell_no _ _ _, by rw [hbb]; exact B3.out⟩
  | true =>
  cases tc with
  | false =>
    have HR2 : Hid (Z = noG 10) := HR1.out
    go_wp2
    go_ret
    exact ⟨.no 10, rfl, by rw [HR2.out]; exact tell_no _ _ _, by rw [hbb]; exact B3.out⟩
  | true =>
  have HR2 : Hid (Z = if (!re && !ye) = true then ⟨L, true, 11⟩ else ⟨Y.ar, true, Y.co⟩) := HR1.out
  clear HR1
  cases re with
  | false =>
    cases ye with
    | false =>
      have HR3 : Hid (Z = ⟨L, true, 11⟩) := HR2.out
      go_wp2_with fail
      refine (KC3.out _ B3.out).mono ?_
      rintro e w5 ⟨u5, rfl, hs5, hb5⟩
      have S5 : Hid (SliceG w5 w4.heap.size u5 L) := hs5
      have B5 : Hid (Below b w w5) := B3.out.trans (hb5.mono (by omega))
      obtain ⟨pu, cu, hu5⟩ : ∃ pu cu, u5 = .slice pu L.length cu := by obtain ⟨⟨p, c, e, -⟩, -⟩ := hs5; exact ⟨p, c, e⟩
      clear hs5 hb5
      subst hu5
      go_wp2
      go_ret
      exact ⟨.done pu L.length cu false 11, rfl, by rw [HR3.out, hbb]; exact ⟨_, rfl, S5.out.mono (by omega)⟩, by rw [hbb]; exact B5.out⟩
    | true =>
      have HR3 : Hid (Z = ⟨Y.ar, true, Y.co⟩) := HR2.out
      go_wp2_with fail
      refine (KP3.out _ B3.out).mono ?_
      rintro e w5 ⟨v5, rfl, ⟨u5, rfl, hs5⟩, hb5⟩
      have S5 : Hid (SliceG w5 w4.heap.size u5 Y.ar) := hs5
      have B5 : Hid (Below b w w5) := B3.out.trans (hb5.mono (by omega))
      obtain ⟨pu, cu, hu5⟩ : ∃ pu cu, u5 = .slice pu Y.ar.length cu := by obtain ⟨⟨p, c, e, -⟩, -⟩ := hs5; exact ⟨p, c, e⟩
      clear hs5 hb5
      subst hu5
      go_wp2
      go_ret
      exact ⟨.done pu Y.ar.length cu Y.us Y.co, rfl, by rw [HR3.out, hbb]; exact ⟨_, rfl, S5.out.mono (by omega)⟩, by rw [hbb]; exact B5.out⟩
  | true =>
    have HR3 : Hid (Z = ⟨Y.ar, true, Y.co⟩) := by show _ = _; rw [HR2.out]; rfl
    go_wp2_with fail
    refine (KP3.out _ B3.out).mono ?_
    rintro e w5 ⟨v5, rfl, ⟨u5, rfl, hs5⟩, hb5⟩
    have S5 : Hid (SliceG w5 w4.heap.size u5 Y.ar) := hs5
    have B5 : Hid (Below b w w5) := B3.out.trans (hb5.mono (by omega))
    obtain ⟨pu, cu, hu5⟩ : ∃ pu cu, u5 = .slice pu Y.ar.length cu := by obtain ⟨⟨p, c, e, -⟩, -⟩ := hs5; exact ⟨p, c, e⟩
    clear hs5 hb5
    subst hu5
    go_wp2
    go_ret
    exact ⟨.done pu Y.ar.length cu Y.us Y.co, rfl, by rw [HR3.out, hbb]; exact ⟨_, rfl, S5.out.mono (by omega)⟩, by rw [hbb]; exact B5.out⟩
set_option maxRecDepth 10000 in
set_option maxHeartbeats 4000000 in
theorem grantAsk_any (v : Value) (L : List Gr) (a : Aq) (now : Int) (B : Nat) (w : World) (hs : SliceG w B v L) (hn : L.length ≤ 1048576) (h1 : a.tp.size ≤ 1048576) (h2 : a.si.size ≤ 1048576) :
    Calls Try.prog 25 #[v, aqV a, .int .i64 now] w fun e w' => ∃ v', e = .returned v' ∧ AnsG w' w.heap.size v' (askG L a now) ∧ Below w.heap.size w w' := by
  have KJ0 : ∀ W, Below w.heap.size w W → Calls Try.prog 60 #[v, aqV a, .int .i64 now] W fun e w' => ∃ vd, e = .returned (verdV vd) ∧ TellG w' W.heap.size vd (askG L a now) ∧ Below W.heap.size W w' := fun W hb => judge_any v L a now B W (hs.below hb) hn h1 h2
  clear hs h1 h2
  generalize askG L a now = Z at *
  obtain ⟨tp, si, tc, sa, re, ye⟩ := a
  unfold aqV at *
  dsimp only at *
  have KJ : Hid (∀ W, Below w.heap.size w W → Calls Try.prog 60 #[v, .agg #[.string tp, .string si, .bool tc, .bool sa, .bool re, .bool ye], .int .i64 now] W fun e w' => ∃ vd, e = .returned (verdV vd) ∧ TellG w' W.heap.size vd Z ∧ Below W.heap.size W w') := KJ0
  clear KJ0
  obtain ⟨W0, hW⟩ : ∃ W0, W0 = (w.alloc (.cells #[.string tp, .string si, .bool tc, .bool sa, .bool re, .bool ye] 42)).alloc (.cells #[.slice none 0 0, .bool false, .int .i64 0] 33) := ⟨_, rfl⟩
  have hW0 : Hid (W0 = (w.alloc (.cells #[.string tp, .string si, .bool tc, .bool sa, .bool re, .bool ye] 42)).alloc (.cells #[.slice none 0 0, .bool false, .int .i64 0] 33)) := hW
  have B0 : Hid (Below w.heap.size w W0) := by show Below _ _ _; rw [hW]; exact ((Below.refl _ _).alloc (Nat.le_refl _) _).alloc (by simp) _
  have X0 : Hid (BoxG W0 (w.heap.size + 1)) := by
    show BoxG _ _
    rw [hW]
    have := boxG_made (w.alloc (.cells #[.string tp, .string si, .bool tc, .bool sa, .bool re, .bool ye] 42)) 33
    simpa using this
  have a0 : W0.cell? ⟨w.heap.size, 0, none⟩ = some (.string tp) := by rw [hW]; simp
  have a1 : W0.cell? ⟨w.heap.size, 1, none⟩ = some (.string si) := by rw [hW]; simp
  have a2 : W0.cell? ⟨w.heap.size, 2, none⟩ = some (.bool tc) := by rw [hW]; simp
  have a3 : W0.cell? ⟨w.heap.size, 3, none⟩ = some (.bool sa) := by rw [hW]; simp
  have a4 : W0.cell? ⟨w.heap.size, 4, none⟩ = some (.bool re) := by rw [hW]; simp
  have a5 : W0.cell? ⟨w.heap.size, 5, none⟩ = some (.bool ye) := by rw [hW]; simp
  have z0 : w.heap.size + 1 < W0.heap.size := by rw [hW]; simp
  clear hW
  go_enter Try.func25, Try.ntmps25
  go_upto_region 1 with fail
  rw [← hW0.out]
  clear hW0
  generalize hbb : w.heap.size = b at *
  go_wp2_with fail
  refine (KJ.out _ B0.out).mono ?_
  rintro e w1 ⟨vd, rfl, ht1, hb1⟩
  have T1 : Hid (TellG w1 W0.heap.size vd Z) := ht1
  have X1 : Hid (BoxG w1 (b + 1)) := X0.out.below hb1
  have B1 : Hid (Below b w w1) := B0.out.trans (hb1.mono (by omega))
  have z1 : b + 1 < w1.heap.size := Nat.lt_of_lt_of_le z0 hb1.size
  have KT : Hid (∀ W, Calls Try.prog 59 #[verdV vd] W fun e w' => e = .returned (toldV vd) ∧ Below W.heap.size W w') := fun W => told_any vd W
  clear ht1 hb1 X0 B0 a0 a1 a2 a3 a4 a5 KJ
  unfold TellG at T1
  generalize toldV vd = tv at *
  generalize verdV vd = vv at *
  go_wp2_with fail
  refine (KT.out _).mono ?_
  rintro e w2 ⟨rfl, hb2⟩
  have T2 : Hid (AnsG w2 W0.heap.size tv Z) := AnsG.below T1.out hb2
  obtain ⟨x0, x1, x2, f0, f1, f2, hlt⟩ := X1.out.below hb2
  have B2 : Hid (Below b w w2) := B1.out.trans (hb2.mono (by omega))
  clear hb2 T1 X1 B1 KT
  obtain ⟨s2, hv2, hs2⟩ := T2.out
  have S2 : Hid (SliceG w2 W0.heap.size s2 Z.ar) := hs2
  obtain ⟨pq, cq, hu2⟩ : ∃ pq cq, s2 = .slice pq Z.ar.length cq := by obtain ⟨⟨p, c, e, -⟩, -⟩ := hs2; exact ⟨p, c, e⟩
  clear hs2 T2
  subst hu2 hv2
  obtain ⟨za, zu, zc⟩ := Z
  dsimp only at *
  generalize hm : za.length = m at *
  go_wp2
  refine bodyPost_ret (v := .agg #[.slice pq m cq, .bool zu, .int .i64 zc]) (by simp [results, Try.results25, go_sem, x0, x1, x2]) rfl ⟨_, rfl, ⟨_, rfl, by rw [hbb]; exact (S2.out.store3 z0).mono (by omega)⟩, by rw [hbb]; exact B2.out.trans ((store3G_below (Below.refl (b + 1) w2)).mono (by omega))⟩
end Go.Proofs.Ytehnklgpdjfcgaa

/- The walks of the program's small functions of grants: what is right, which comes first, who has leave, who is old. -/
import Derived.Test.YtehnklgpdjfcgaaLeaveT
import Derived.Test.YtehnklgpdjfcgaaShelf
import Derived.Test.YtehnklgpdjfcgaaCmpOr
import Derived.Deep.RegionHeld3
import Derived.Deep.DeepCutAuto
import Derived.Sort.Grow
import Derived.Deep.Draws
namespace Go.Proofs.Ytehnklgpdjfcgaa
open Go.RowKit

theorem empty_site (t : ByteArray) (h : 1 ≤ t.size) : (t.toList == []) = false := by
  rw [beq_eq_false_iff_ne, Lib.toList_data]
  intro e
  have : t.data.toList.length = 0 := by rw [e]; rfl
  have e2 : t.size = t.data.toList.length := by rw [Array.length_toList]; rfl
  omega
theorem empty_site0 (t : ByteArray) (h : ¬ 1 ≤ t.size) : (t.toList == []) = true := by
  rw [beq_iff_eq, Lib.toList_data]
  have e2 : t.size = t.data.toList.length := by rw [Array.length_toList]; rfl
  exact List.length_eq_zero_iff.1 (by omega)
set_option maxRecDepth 10000 in
set_option maxHeartbeats 1000000 in
theorem siteRight_any (t : ByteArray) (w : World) : Calls Try.prog 74 #[.string t] w fun e w' => e = .returned (.bool (siteG t)) ∧ w' = w := by
  have HK : Hid (siteG t = (decide (1 ≤ t.size) && decide (t.size ≤ 120))) := rfl
  generalize siteG t = R at *
  by_cases h1 : 1 ≤ t.size
  · have q1 := empty_site t h1
    by_cases h2 : t.size ≤ 120
    · have q2 : decide ((t.size : Int) ≤ (120 : Int)) = true := by rw [decide_eq_true_iff]; omega
      have HR : Hid (R = true) := by show _ = _; rw [HK.out, decide_eq_true h1, decide_eq_true h2]; rfl
      go_enter Try.func74, Try.ntmps74
      go_wp2
      go_ret
      exact ⟨ret_bool HR.out.symm, rfl⟩
    · have q2 : decide ((t.size : Int) ≤ (120 : Int)) = false := by rw [decide_eq_false_iff_not]; omega
      have HR : Hid (R = false) := by show _ = _; rw [HK.out, decide_eq_false h2, Bool.and_false]
      go_enter Try.func74, Try.ntmps74
      go_wp2
      go_ret
      exact ⟨ret_bool HR.out.symm, rfl⟩
  · have q1 := empty_site0 t h1
    have HR : Hid (R = false) := by show _ = _; rw [HK.out, decide_eq_false h1]; rfl
    go_enter Try.func74, Try.ntmps74
    go_wp2
    go_ret
    exact ⟨ret_bool HR.out.symm, rfl⟩
set_option maxRecDepth 10000 in
theorem isTimeG_any (n : Int) (w : World) :
    Calls Try.prog 41 #[.int .i64 n] w fun e w' => e = .returned (.bool (timeG n)) ∧ w' = w := by
  have HM : Hid (timeG n = (decide (0 ≤ n) && decide (n ≤ 1000000))) := rfl
  generalize timeG n = R at *
  by_cases h0 : 0 ≤ n
  · have q0 : decide ((0 : Int) ≤ n) = true := by rw [decide_eq_true_iff]; exact h0
    go_enter Try.func41, Try.ntmps41
    go_wp2
    go_ret
    exact ⟨ret_bool (by rw [HM.out, q0]; rfl), rfl⟩
  · have q0 : decide ((0 : Int) ≤ n) = false := by rw [decide_eq_false_iff_not]; exact h0
    go_enter Try.func41, Try.ntmps41
    go_wp2
    go_ret
    exact ⟨ret_bool (by rw [HM.out, q0]; rfl), rfl⟩
/-- of whom leave is, as a value -/
def leaveV (tp si : ByteArray) : Value := .agg #[.string tp, .string si]
set_option maxRecDepth 10000 in
set_option maxHeartbeats 1000000 in
theorem leaveRight_any (t s : ByteArray) (w : World) : Calls Try.prog 50 #[leaveV t s] w fun r w' => r = .returned (.bool (siteG t && siteG s)) ∧ Below w.heap.size w w' := by
  unfold leaveV
  have K1 : Hid (∀ W, Calls Try.prog 74 #[.string t] W fun e w' => e = .returned (.bool (siteG t)) ∧ w' = W) := fun W => siteRight_any t W
  have K2 : Hid (∀ W, Calls Try.prog 74 #[.string s] W fun e w' => e = .returned (.bool (siteG s)) ∧ w' = W) := fun W => siteRight_any s W
  have HB : Hid (Below w.heap.size w (w.alloc (.cells #[.string t, .string s] 73))) := (Below.refl _ _).alloc (Nat.le_refl _) _
  generalize siteG t = b1 at *
  generalize siteG s = b2 at *
  go_enter Try.func50, Try.ntmps50
  go_wp2_with fail
  refine (K1.out _).mono ?_
  rintro e w1 ⟨rfl, rfl⟩
  cases b1 with
  | false =>
    go_wp2
    go_ret
    exact ⟨rfl, HB.out⟩
  | true =>
  go_wp2_with fail
  refine (K2.out _).mono ?_
  rintro e w1 ⟨rfl, rfl⟩
  go_wp2
  go_ret
  exact ⟨rfl, HB.out⟩
theorem grow_oneG (w : World) (o : Obj) : w.alloc o = Go.Sort.grow w #[o] := by unfold Go.Sort.grow World.alloc; rw [Array.append_singleton]
theorem cmpStrG_any (a b : ByteArray) (w : World) : Calls Try.prog 78 #[.string a, .string b] w fun e w' => e = .returned (.int .i64 (Lib.compareBytes a.data.toList b.data.toList)) ∧ w' = w :=
  Any.strings_Compare { Try.lays106 with } a b w
set_option maxRecDepth 10000 in
set_option maxHeartbeats 1000000 in
theorem grantOrder_any (a b : Gr) (w : World) : Calls Try.prog 56 #[grV a, grV b] w fun e w' => e = .returned (.int .i64 (ordG a b)) ∧ Below w.heap.size w w' := by
  have HN : Hid (ordG a b = if Lib.compareBytes a.tp.data.toList b.tp.data.toList = 0 then Lib.compareBytes a.si.data.toList b.si.data.toList else Lib.compareBytes a.tp.data.toList b.tp.data.toList) := rfl
  generalize ordG a b = R at *
  obtain ⟨ke, na, va⟩ := a
  obtain ⟨ke', na', va'⟩ := b
  unfold grV
  dsimp only at HN ⊢
  have K1 : Hid (∀ W, Calls Try.prog 78 #[.string ke, .string ke'] W fun e w' => e = .returned (.int .i64 (Lib.compareBytes ke.data.toList ke'.data.toList)) ∧ w' = W) := fun W => cmpStrG_any _ _ W
  have K2 : Hid (∀ W, Calls Try.prog 78 #[.string na, .string na'] W fun e w' => e = .returned (.int .i64 (Lib.compareBytes na.data.toList na'.data.toList)) ∧ w' = W) := fun W => cmpStrG_any _ _ W
  generalize Lib.compareBytes ke.data.toList ke'.data.toList = o1 at *
  generalize Lib.compareBytes na.data.toList na'.data.toList = o2 at *
  have K3 : Hid (∀ (g : Nat) (W : World), W.cell? ⟨g, 0, none⟩ = some (.int .i64 o1) → W.cell? ⟨g, 1, none⟩ = some (.int .i64 o2) → Calls Try.prog 77 #[.slice (some ⟨g, 0, none⟩) 2 2] W fun e w' => e = .returned (.int .i64 R) ∧ w' = W) := fun g W a b => by rw [HN.out]; exact orInt_any o1 o2 g W a b
  clear HN
  obtain ⟨W0, hW⟩ : ∃ W0, W0 = (w.alloc (.cells #[.string ke, .string na, .int .i64 va] 62)).alloc (.cells #[.string ke', .string na', .int .i64 va'] 62) := ⟨_, rfl⟩
  have hW0 : Hid (W0 = (w.alloc (.cells #[.string ke, .string na, .int .i64 va] 62)).alloc (.cells #[.string ke', .string na', .int .i64 va'] 62)) := hW
  have HB : Hid (Below w.heap.size w W0) := by show Below _ _ _; rw [hW]; exact ((Below.refl _ _).alloc (Nat.le_refl _) _).alloc (by simp) _
  have c4 : W0.cell? ⟨w.heap.size, 0, none⟩ = some (.string ke) := by rw [hW]; simp
  have c9 : W0.cell? ⟨w.heap.size, 1, none⟩ = some (.string na) := by rw [hW]; simp
  have d4 : W0.cell? ⟨w.heap.size + 1, 0, none⟩ = some (.string ke') := by rw [hW]; exact (World.cell?_alloc_at _ _ _ _ (by simp)).trans rfl
  have d9 : W0.cell? ⟨w.heap.size + 1, 1, none⟩ = some (.string na') := by rw [hW]; exact (World.cell?_alloc_at _ _ _ _ (by simp)).trans rfl
  have z0 : w.heap.size + 1 < W0.heap.size := by rw [hW]; simp
  clear hW
  go_enter Try.func56, Try.ntmps56
  go_upto_region 1 with fail
  rw [← hW0.out]
  clear hW0
  generalize hbb : w.heap.size = b at *
  go_region_held3 (fun w' => w'.cell? ⟨b, 0, none⟩ = some (.string ke) ∧ w'.cell? ⟨b, 1, none⟩ = some (.string na) ∧ w'.cell? ⟨b + 1, 0, none⟩ = some (.string ke') ∧ w'.cell? ⟨b + 1, 1, none⟩ = some (.string na')) (go_keep)
    (first | (go_at_call 78; refine (K1.out _).mono ?_; rintro e w1 ⟨rfl, rfl⟩) | (go_at_call 78; refine (K2.out _).mono ?_; rintro e w2 ⟨rfl, rfl⟩) | (go_at_call 77; refine (K3.out _ _ (by simp) (by simp)).mono ?_; rintro e w3 ⟨rfl, rfl⟩))
  all_goals go_wp2
  all_goals go_ret
  all_goals exact ⟨rfl, by rw [hbb]; exact HB.out.drew.alloc (by simp; omega) _⟩
set_option maxRecDepth 10000 in
set_option maxHeartbeats 1000000 in
theorem outlives_any (now : Int) (c : Gr) (w : World) :
    Calls Try.prog 45 #[.int .i64 now, grV c] w fun e w' => e = .returned (.bool (!(liveG now c))) ∧ Below w.heap.size w w' := by
  have HE : Hid (liveG now c = decide (now < c.un)) := rfl
  generalize liveG now c = R at *
  obtain ⟨tp, si, un⟩ := c
  unfold grV
  dsimp only at HE ⊢
  have HX : Hid ((!decide (now < un)) = decide (un ≤ now)) := by
    show _ = _
    by_cases h : now < un
    · rw [decide_eq_true h, decide_eq_false (by omega)]; rfl
    · rw [decide_eq_false h, decide_eq_true (by omega)]; rfl
  go_enter Try.func45, Try.ntmps45
  go_wp2
  go_ret
  exact ⟨ret_bool (by rw [HE.out, HX.out]), (Below.refl _ _).alloc (Nat.le_refl _) _⟩
set_option maxRecDepth 10000 in
set_option maxHeartbeats 1000000 in
theorem leaveOf_any (c : Gr) (w : World) :
    Calls Try.prog 75 #[grV c] w fun e w' => e = .returned (leaveV c.tp c.si) ∧ Below w.heap.size w w' := by
  obtain ⟨tp, si, un⟩ := c
  unfold grV leaveV
  dsimp only
  go_enter Try.func75, Try.ntmps75
  go_wp2
  exact bodyPost_ret (v := .agg #[.string tp, .string si]) (by simp [results, Try.results75, go_sem]) rfl ⟨rfl, ((Below.refl _ _).alloc (Nat.le_refl _) _).alloc (by simp) _⟩
set_option maxRecDepth 10000 in
set_option maxHeartbeats 1000000 in
theorem grantRight_any (c : Gr) (w : World) : Calls Try.prog 69 #[grV c] w fun e w' => e = .returned (.bool (grB c)) ∧ Below w.heap.size w w' := by
  have KL0 : ∀ W, Calls Try.prog 75 #[grV c] W fun e w' => e = .returned (leaveV c.tp c.si) ∧ Below W.heap.size W w' := fun W => leaveOf_any c W
  have KR : Hid (∀ W, Calls Try.prog 50 #[leaveV c.tp c.si] W fun e w' => e = .returned (.bool (siteG c.tp && siteG c.si)) ∧ Below W.heap.size W w') := fun W => leaveRight_any _ _ W
  have KT : Hid (∀ W, Calls Try.prog 41 #[.int .i64 c.un] W fun e w' => e = .returned (.bool (timeG c.un)) ∧ w' = W) := fun W => isTimeG_any _ W
  have HG : Hid (grB c = ((siteG c.tp && siteG c.si) && timeG c.un)) := rfl
  generalize grB c = R at *
  obtain ⟨tp, si, un⟩ := c
  unfold grV leaveV at *
  dsimp only at *
  have KL : Hid (∀ W, Calls Try.prog 75 #[.agg #[.string tp, .string si, .int .i64 un]] W fun e w' => e = .returned (.agg #[.string tp, .string si]) ∧ Below W.heap.size W w') := KL0
  clear KL0
  generalize (siteG tp && siteG si) = b1 at *
  generalize timeG un = b2 at *
  obtain ⟨W0, hW⟩ : ∃ W0, W0 = w.alloc (.cells #[.string tp, .string si, .int .i64 un] 62) := ⟨_, rfl⟩
  have hW0 : Hid (W0 = w.alloc (.cells #[.string tp, .string si, .int .i64 un] 62)) := hW
  have B0 : Hid (Below w.heap.size w W0) := by show Below _ _ _; rw [hW]; exact (Below.refl _ _).alloc (Nat.le_refl _) _
  have c0 : W0.cell? ⟨w.heap.size, 0, none⟩ = some (.string tp) := by rw [hW]; simp
  have c1 : W0.cell? ⟨w.heap.size, 1, none⟩ = some (.string si) := by rw [hW]; simp
  have c2 : W0.cell? ⟨w.heap.size, 2, none⟩ = some (.int .i64 un) := by rw [hW]; simp
  have z0 : w.heap.size < W0.heap.size := by rw [hW]; simp
  clear hW
  go_enter Try.func69, Try.ntmps69
  go_upto_region 1 with fail
  rw [← hW0.out]
  clear hW0
  generalize hbb : w.heap.size = b at *
  go_wp2_with fail
  refine (KL.out _).mono ?_
  rintro e w1 ⟨rfl, hb1⟩
  have e2 : w1.cell? ⟨b, 2, none⟩ = some (.int .i64 un) := ((bcell hb1).1 _ _ z0).trans c2
  have B1 : Hid (Below b w w1) := B0.out.trans (hb1.mono (Nat.le_of_lt z0))
  have z1 : b < w1.heap.size := Nat.lt_of_lt_of_le z0 hb1.size
  clear hb1
  go_wp2_with fail
  refine (KR.out _).mono ?_
  rintro e w2 ⟨rfl, hb2⟩
  have f2 : w2.cell? ⟨b, 2, none⟩ = some (.int .i64 un) := ((bcell hb2).1 _ _ z1).trans e2
  have B2 : Hid (Below b w w2) := B1.out.trans (hb2.mono (Nat.le_of_lt z1))
  clear hb2
  cases b1 with
  | false =>
    go_wp2
    go_ret
    exact ⟨ret_bool HG.out.symm, by rw [hbb]; exact B2.out⟩
  | true =>
  go_wp2_with fail
  refine (KT.out _).mono ?_
  rintro e w3 ⟨rfl, rfl⟩
  go_wp2
  go_ret
  exact ⟨ret_bool HG.out.symm, by rw [hbb]; exact B2.out⟩
end Go.Proofs.Ytehnklgpdjfcgaa

/- The walk of the program's leave.has. Written by implleave2.py. -/
import Derived.Test.YtehnklgpdjfcgaaImplLeave
namespace Go.Proofs.Ytehnklgpdjfcgaa
open Go.RowKit
set_option linter.unusedSimpArgs false

set_option maxRecDepth 10000 in
set_option maxHeartbeats 4000000 in
theorem hasG_any (tp si : ByteArray) (c : Gr) (w : World) :
    Calls Try.prog 51 #[leaveV tp si, grV c] w fun e w' => e = .returned (.bool (isG tp si c)) ∧ Below w.heap.size w w' := by
  have KP0 : ∀ W, Calls Try.prog 75 #[grV c] W fun e w' => e = .returned (leaveV c.tp c.si) ∧ Below W.heap.size W w' := fun W => leaveOf_any c W
  have HE : Hid (isG tp si c = ((c.tp.toList == tp.toList) && (c.si.toList == si.toList))) := rfl
  generalize isG tp si c = R at *
  obtain ⟨tp2, si2, un⟩ := c
  unfold grV leaveV at *
  dsimp only at *
  have KP : Hid (∀ W, Calls Try.prog 75 #[.agg #[.string tp2, .string si2, .int .i64 un]] W fun e w' => e = .returned (.agg #[.string tp2, .string si2]) ∧ Below W.heap.size W w') := KP0
  clear KP0
  obtain ⟨W0, hW⟩ : ∃ W0, W0 = (w.alloc (.cells #[.string tp, .string si] 73)).alloc (.cells #[.string tp2, .string si2, .int .i64 un] 62) := ⟨_, rfl⟩
  have hW0 : Hid (W0 = (w.alloc (.cells #[.string tp, .string si] 73)).alloc (.cells #[.string tp2, .string si2, .int .i64 un] 62)) := hW
  have HB : Hid (Below w.heap.size w W0) := by show Below _ _ _; rw [hW]; exact ((Below.refl _ _).alloc (Nat.le_refl _) _).alloc (by simp) _
  have z0 : w.heap.size < W0.heap.size := by rw [hW]; simp; omega
  have z1 : w.heap.size + 1 < W0.heap.size := by rw [hW]; simp
  have p0 : W0.cell? ⟨w.heap.size, 0, none⟩ = some (.string tp) := by rw [hW]; simp
  have p1 : W0.cell? ⟨w.heap.size, 1, none⟩ = some (.string si) := by rw [hW]; simp
  have q0 : W0.cell? ⟨w.heap.size + 1, 0, none⟩ = some (.string tp2) := by rw [hW]; exact (World.cell?_alloc_at _ _ _ _ (by simp)).trans rfl
  have q1 : W0.cell? ⟨w.heap.size + 1, 1, none⟩ = some (.string si2) := by rw [hW]; exact (World.cell?_alloc_at _ _ _ _ (by simp)).trans rfl
  have q2 : W0.cell? ⟨w.heap.size + 1, 2, none⟩ = some (.int .i64 un) := by rw [hW]; exact (World.cell?_alloc_at _ _ _ _ (by simp)).trans rfl
  clear hW
  cases h0 : (tp2.toList == tp.toList) with
  | false =>
    have HQ : Hid (R = false) := by show _ = _; rw [HE.out]; simp only [*]; try rfl
    go_enter Try.func51, Try.ntmps51
    go_wp2_with fail
    rw [← hW0.out]
    go_region_held3 (fun w' => w'.cell? ⟨w.heap.size, 0, none⟩ = some (.string tp) ∧ w'.cell? ⟨w.heap.size, 1, none⟩ = some (.string si) ∧ w'.cell? ⟨w.heap.size + 1, 0, none⟩ = some (.string tp2) ∧ w'.cell? ⟨w.heap.size + 1, 1, none⟩ = some (.string si2) ∧ w'.cell? ⟨w.heap.size + 1, 2, none⟩ = some (.int .i64 un)) (go_keep)
      (first | (go_at_call 75; refine (KP.out _).mono ?_; rintro e w2 ⟨rfl, hb2⟩; have A2 : Below W0.heap.size W0 w2 := (Below.drew (Below.refl _ _)).trans hb2; have l0 : w2.cell? ⟨w.heap.size, 0, none⟩ = some (.string tp) := ((bcell A2).1 _ _ z0).trans p0; have l1 : w2.cell? ⟨w.heap.size, 1, none⟩ = some (.string si) := ((bcell A2).1 _ _ z0).trans p1; have l2 : w2.cell? ⟨w.heap.size + 1, 0, none⟩ = some (.string tp2) := ((bcell A2).1 _ _ z1).trans q0; have l3 : w2.cell? ⟨w.heap.size + 1, 1, none⟩ = some (.string si2) := ((bcell A2).1 _ _ z1).trans q1; have l4 : w2.cell? ⟨w.heap.size + 1, 2, none⟩ = some (.int .i64 un) := ((bcell A2).1 _ _ z1).trans q2))
    have B2 : Hid (Below w.heap.size w w2) := HB.out.trans (A2.mono HB.out.size)
    all_goals go_wp2
    all_goals go_ret
    all_goals exact ⟨ret_bool HQ.out.symm, B2.out⟩
  | true =>
    cases h1 : (si2.toList == si.toList) with
    | false =>
      have HQ : Hid (R = false) := by show _ = _; rw [HE.out]; simp only [*]; try rfl
      go_enter Try.func51, Try.ntmps51
      go_wp2_with fail
      rw [← hW0.out]
      go_region_held3 (fun w' => w'.cell? ⟨w.heap.size, 0, none⟩ = some (.string tp) ∧ w'.cell? ⟨w.heap.size, 1, none⟩ = some (.string si) ∧ w'.cell? ⟨w.heap.size + 1, 0, none⟩ = some (.string tp2) ∧ w'.cell? ⟨w.heap.size + 1, 1, none⟩ = some (.string si2) ∧ w'.cell? ⟨w.heap.size + 1, 2, none⟩ = some (.int .i64 un)) (go_keep)
        (first | (go_at_call 75; refine (KP.out _).mono ?_; rintro e w2 ⟨rfl, hb2⟩; have A2 : Below W0.heap.size W0 w2 := (Below.drew (Below.refl _ _)).trans hb2; have l0 : w2.cell? ⟨w.heap.size, 0, none⟩ = some (.string tp) := ((bcell A2).1 _ _ z0).trans p0; have l1 : w2.cell? ⟨w.heap.size, 1, none⟩ = some (.string si) := ((bcell A2).1 _ _ z0).trans p1; have l2 : w2.cell? ⟨w.heap.size + 1, 0, none⟩ = some (.string tp2) := ((bcell A2).1 _ _ z1).trans q0; have l3 : w2.cell? ⟨w.heap.size + 1, 1, none⟩ = some (.string si2) := ((bcell A2).1 _ _ z1).trans q1; have l4 : w2.cell? ⟨w.heap.size + 1, 2, none⟩ = some (.int .i64 un) := ((bcell A2).1 _ _ z1).trans q2))
      have B2 : Hid (Below w.heap.size w w2) := HB.out.trans (A2.mono HB.out.size)
      all_goals go_wp2
      all_goals go_ret
      all_goals exact ⟨ret_bool HQ.out.symm, B2.out⟩
    | true =>
      have HQ : Hid (R = true) := by show _ = _; rw [HE.out]; simp only [*]; try rfl
      go_enter Try.func51, Try.ntmps51
      go_wp2_with fail
      rw [← hW0.out]
      go_region_held3 (fun w' => w'.cell? ⟨w.heap.size, 0, none⟩ = some (.string tp) ∧ w'.cell? ⟨w.heap.size, 1, none⟩ = some (.string si) ∧ w'.cell? ⟨w.heap.size + 1, 0, none⟩ = some (.string tp2) ∧ w'.cell? ⟨w.heap.size + 1, 1, none⟩ = some (.string si2) ∧ w'.cell? ⟨w.heap.size + 1, 2, none⟩ = some (.int .i64 un)) (go_keep)
        (first | (go_at_call 75; refine (KP.out _).mono ?_; rintro e w2 ⟨rfl, hb2⟩; have A2 : Below W0.heap.size W0 w2 := (Below.drew (Below.refl _ _)).trans hb2; have l0 : w2.cell? ⟨w.heap.size, 0, none⟩ = some (.string tp) := ((bcell A2).1 _ _ z0).trans p0; have l1 : w2.cell? ⟨w.heap.size, 1, none⟩ = some (.string si) := ((bcell A2).1 _ _ z0).trans p1; have l2 : w2.cell? ⟨w.heap.size + 1, 0, none⟩ = some (.string tp2) := ((bcell A2).1 _ _ z1).trans q0; have l3 : w2.cell? ⟨w.heap.size + 1, 1, none⟩ = some (.string si2) := ((bcell A2).1 _ _ z1).trans q1; have l4 : w2.cell? ⟨w.heap.size + 1, 2, none⟩ = some (.int .i64 un) := ((bcell A2).1 _ _ z1).trans q2))
      have B2 : Hid (Below w.heap.size w w2) := HB.out.trans (A2.mono HB.out.size)
      all_goals go_wp2
      all_goals go_ret
      all_goals exact ⟨ret_bool HQ.out.symm, B2.out⟩
end Go.Proofs.Ytehnklgpdjfcgaa

/- 8 of this claim's texts, one behind the other. -/
import Derived.Test.YtfoekelhcmlagaaDoorPart2
import Derived.Deep.RegionHeld3
import Derived.Test.YtfoekelhcmlagaaDoorPart1
import Derived.WalkKit
import Derived.WalkSpells
import Derived.WalkLawsBesides
import Derived.Laws.ResultCell
/- The walks of the program's cookiePlaceOf and cookiePlace.has, and of the library's IndexFunc and ContainsFunc over it. Written by implplace.py. -/
namespace Go.Proofs.YtfoekelhcmlagaaDoor
open Go.RowKit

/-- a cookie's place, as a value -/
def placeV (c : Ck) : Value := .agg #[.string c.ho, .bool c.al, .string c.pa, .string c.pt, .string c.na]
theorem beq_turn {α : Type} [BEq α] [LawfulBEq α] (a b : α) : (a == b) = (b == a) := by
  rw [Bool.eq_iff_iff, beq_iff_eq, beq_iff_eq]; exact eq_comm
theorem sameK_comm (a b : Ck) : sameK a b = sameK b a := by
  unfold sameK
  rw [beq_turn a.ho.toList, beq_turn a.al, beq_turn a.pa.toList, beq_turn a.pt.toList, beq_turn a.na.toList]
set_option maxRecDepth 10000 in
set_option maxHeartbeats 1000000 in
theorem placeOf_any (c : Ck) (w : World) :
    Calls Tryd.prog 116 #[ckV c] w fun e w' => e = .returned (placeV c) ∧ Below w.heap.size w w' := by
  obtain ⟨na, va, ho, al, pa, se, mo, pt, un, ma⟩ := c
  unfold ckV placeV
  dsimp only
  go_enter Tryd.func116, Tryd.ntmps116
  go_wp2
  exact bodyPost_ret (v := .agg #[.string ho, .bool al, .string pa, .string pt, .string na]) (by simp [results, Tryd.results116, go_sem]) rfl ⟨rfl, ((Below.refl _ _).alloc (Nat.le_refl _) _).alloc (by simp) _⟩
set_option maxRecDepth 10000 in
set_option maxHeartbeats 4000000 in
theorem has_any (a c : Ck) (w : World) :
    Calls Tryd.prog 117 #[placeV a, ckV c] w fun e w' => e = .returned (.bool (sameK a c)) ∧ Below w.heap.size w w' := by
  have KP0 : ∀ W, Calls Tryd.prog 116 #[ckV c] W fun e w' => e = .returned (placeV c) ∧ Below W.heap.size W w' := fun W => placeOf_any c W
  have HE : Hid (sameK a c = ((a.ho.toList == c.ho.toList) && (a.al == c.al) && (a.pa.toList == c.pa.toList) && (a.pt.toList == c.pt.toList) && (a.na.toList == c.na.toList))) := rfl
  generalize sameK a c = R at *
  obtain ⟨na2, va2, ho2, al2, pa2, se2, mo2, pt2, un2, ma2⟩ := a
  obtain ⟨na, va, ho, al, pa, se, mo, pt, un, ma⟩ := c
  unfold ckV placeV at *
  dsimp only at *
  have KP : Hid (∀ W, Calls Tryd.prog 116 #[.agg #[.string na, .string va, .string ho, .bool al, .string pa, .bool se, .int .i64 mo, .string pt, .int .i64 un, .int .i64 ma]] W fun e w' => e = .returned (.agg #[.string ho, .bool al, .string pa, .string pt, .string na]) ∧ Below W.heap.size W w') := KP0
  clear KP0
  obtain ⟨W0, hW⟩ : ∃ W0, W0 = ((w.alloc (.cells #[.string ho2, .bool al2, .string pa2, .string pt2, .string na2] 124)).alloc (.cells #[.string na, .string va, .string ho, .bool al, .string pa, .bool se, .int .i64 mo, .string pt, .int .i64 un, .int .i64 ma] 59)) := ⟨_, rfl⟩
  have hW0 : Hid (W0 = ((w.alloc (.cells #[.string ho2, .bool al2, .string pa2, .string pt2, .string na2] 124)).alloc (.cells #[.string na, .string va, .string ho, .bool al, .string pa, .bool se, .int .i64 mo, .string pt, .int .i64 un, .int .i64 ma] 59))) := hW
  have HB : Hid (Below w.heap.size w W0) := by show Below _ _ _; rw [hW]; exact ((Below.refl _ _).alloc (Nat.le_refl _) _).alloc (by simp) _
  have z0 : w.heap.size < W0.heap.size := by rw [hW]; simp; omega
  have z1 : w.heap.size + 1 < W0.heap.size := by rw [hW]; simp
  have p0 : W0.cell? ⟨w.heap.size, 0, none⟩ = some (.string ho2) := by rw [hW]; simp
  have p1 : W0.cell? ⟨w.heap.size, 1, none⟩ = some (.bool al2) := by rw [hW]; simp
  have p2 : W0.cell? ⟨w.heap.size, 2, none⟩ = some (.string pa2) := by rw [hW]; simp
  have p3 : W0.cell? ⟨w.heap.size, 3, none⟩ = some (.string pt2) := by rw [hW]; simp
  have p4 : W0.cell? ⟨w.heap.size, 4, none⟩ = some (.string na2) := by rw [hW]; simp
  have q0 : W0.cell? ⟨w.heap.size + 1, 0, none⟩ = some (.string na) := by rw [hW]; exact (World.cell?_alloc_at _ _ _ _ (by simp)).trans rfl
  have q1 : W0.cell? ⟨w.heap.size + 1, 1, none⟩ = some (.string va) := by rw [hW]; exact (World.cell?_alloc_at _ _ _ _ (by simp)).trans rfl
  have q2 : W0.cell? ⟨w.heap.size + 1, 2, none⟩ = some (.string ho) := by rw [hW]; exact (World.cell?_alloc_at _ _ _ _ (by simp)).trans rfl
  have q3 : W0.cell? ⟨w.heap.size + 1, 3, none⟩ = some (.bool al) := by rw [hW]; exact (World.cell?_alloc_at _ _ _ _ (by simp)).trans rfl
  have q4 : W0.cell? ⟨w.heap.size + 1, 4, none⟩ = some (.string pa) := by rw [hW]; exact (World.cell?_alloc_at _ _ _ _ (by simp)).trans rfl
  have q5 : W0.cell? ⟨w.heap.size + 1, 5, none⟩ = some (.bool se) := by rw [hW]; exact (World.cell?_alloc_at _ _ _ _ (by simp)).trans rfl
  have q6 : W0.cell? ⟨w.heap.size + 1, 6, none⟩ = some (.int .i64 mo) := by rw [hW]; exact (World.cell?_alloc_at _ _ _ _ (by simp)).trans rfl
  have q7 : W0.cell? ⟨w.heap.size + 1, 7, none⟩ = some (.string pt) := by rw [hW]; exact (World.cell?_alloc_at _ _ _ _ (by simp)).trans rfl
  have q8 : W0.cell? ⟨w.heap.size + 1, 8, none⟩ = some (.int .i64 un) := by rw [hW]; exact (World.cell?_alloc_at _ _ _ _ (by simp)).trans rfl
  have q9 : W0.cell? ⟨w.heap.size + 1, 9, none⟩ = some (.int .i64 ma) := by rw [hW]; exact (World.cell?_alloc_at _ _ _ _ (by simp)).trans rfl
  clear hW
  cases h0 : (ho2.toList == ho.toList) with
  | false =>
    have HQ : Hid (R = false) := by show _ = _; rw [HE.out]; simp only [*]; try rfl
    go_enter Tryd.func117, Tryd.ntmps117
    go_wp2_with fail
    rw [← hW0.out]
    go_region_held3 (fun w' => w'.cell? ⟨w.heap.size, 0, none⟩ = some (.string ho2) ∧ w'.cell? ⟨w.heap.size, 1, none⟩ = some (.bool al2) ∧ w'.cell? ⟨w.heap.size, 2, none⟩ = some (.string pa2) ∧ w'.cell? ⟨w.heap.size, 3, none⟩ = some (.string pt2) ∧ w'.cell? ⟨w.heap.size, 4, none⟩ = some (.string na2) ∧ w'.cell? ⟨w.heap.size + 1, 0, none⟩ = some (.string na) ∧ w'.cell? ⟨w.heap.size + 1, 1, none⟩ = some (.string va) ∧ w'.cell? ⟨w.heap.size + 1, 2, none⟩ = some (.string ho) ∧ w'.cell? ⟨w.heap.size + 1, 3, none⟩ = some (.bool al) ∧ w'.cell? ⟨w.heap.size + 1, 4, none⟩ = some (.string pa) ∧ w'.cell? ⟨w.heap.size + 1, 5, none⟩ = some (.bool se) ∧ w'.cell? ⟨w.heap.size + 1, 6, none⟩ = some (.int .i64 mo) ∧ w'.cell? ⟨w.heap.size + 1, 7, none⟩ = some (.string pt) ∧ w'.cell? ⟨w.heap.size + 1, 8, none⟩ = some (.int .i64 un) ∧ w'.cell? ⟨w.heap.size + 1, 9, none⟩ = some (.int .i64 ma)) (go_keep)
      (first | (go_at_call 116; refine (KP.out _).mono ?_; rintro e w2 ⟨rfl, hb2⟩; have A2 : Below W0.heap.size W0 w2 := (Below.drew (Below.refl _ _)).trans hb2; have l0 : w2.cell? ⟨w.heap.size, 0, none⟩ = some (.string ho2) := ((bcell A2).1 _ _ z0).trans p0; have l1 : w2.cell? ⟨w.heap.size, 1, none⟩ = some (.bool al2) := ((bcell A2).1 _ _ z0).trans p1; have l2 : w2.cell? ⟨w.heap.size, 2, none⟩ = some (.string pa2) := ((bcell A2).1 _ _ z0).trans p2; have l3 : w2.cell? ⟨w.heap.size, 3, none⟩ = some (.string pt2) := ((bcell A2).1 _ _ z0).trans p3; have l4 : w2.cell? ⟨w.heap.size, 4, none⟩ = some (.string na2) := ((bcell A2).1 _ _ z0).trans p4; have m0 : w2.cell? ⟨w.heap.size + 1, 0, none⟩ = some (.string na) := ((bcell A2).1 _ _ z1).trans q0; have m1 : w2.cell? ⟨w.heap.size + 1, 1, none⟩ = some (.string va) := ((bcell A2).1 _ _ z1).trans q1; have m2 : w2.cell? ⟨w.heap.size + 1, 2, none⟩ = some (.string ho) := ((bcell A2).1 _ _ z1).trans q2; have m3 : w2.cell? ⟨w.heap.size + 1, 3, none⟩ = some (.bool al) := ((bcell A2).1 _ _ z1).trans q3; have m4 : w2.cell? ⟨w.heap.size + 1, 4, none⟩ = some (.string pa) := ((bcell A2).1 _ _ z1).trans q4; have m5 : w2.cell? ⟨w.heap.size + 1, 5, none⟩ = some (.bool se) := ((bcell A2).1 _ _ z1).trans q5; have m6 : w2.cell? ⟨w.heap.size + 1, 6, none⟩ = some (.int .i64 mo) := ((bcell A2).1 _ _ z1).trans q6; have m7 : w2.cell? ⟨w.heap.size + 1, 7, none⟩ = some (.string pt) := ((bcell A2).1 _ _ z1).trans q7; have m8 : w2.cell? ⟨w.heap.size + 1, 8, none⟩ = some (.int .i64 un) := ((bcell A2).1 _ _ z1).trans q8; have m9 : w2.cell? ⟨w.heap.size + 1, 9, none⟩ = some (.int .i64 ma) := ((bcell A2).1 _ _ z1).trans q9))
    have B2 : Hid (Below w.heap.size w w2) := HB.out.trans (A2.mono HB.out.size)
    all_goals go_wp2
    all_goals go_ret
    all_goals exact ⟨ret_bool HQ.out.symm, B2.out⟩
  | true =>
    cases h1 : (al2 == al) with
    | false =>
      have HQ : Hid (R = false) := by show _ = _; rw [HE.out]; simp only [*]; try rfl
      go_enter Tryd.func117, Tryd.ntmps117
      go_wp2_with fail
      rw [← hW0.out]
      go_region_held3 (fun w' => w'.cell? ⟨w.heap.size, 0, none⟩ = some (.string ho2) ∧ w'.cell? ⟨w.heap.size, 1, none⟩ = some (.bool al2) ∧ w'.cell? ⟨w.heap.size, 2, none⟩ = some (.string pa2) ∧ w'.cell? ⟨w.heap.size, 3, none⟩ = some (.string pt2) ∧ w'.cell? ⟨w.heap.size, 4, none⟩ = some (.string na2) ∧ w'.cell? ⟨w.heap.size + 1, 0, none⟩ = some (.string na) ∧ w'.cell? ⟨w.heap.size + 1, 1, none⟩ = some (.string va) ∧ w'.cell? ⟨w.heap.size + 1, 2, none⟩ = some (.string ho) ∧ w'.cell? ⟨w.heap.size + 1, 3, none⟩ = some (.bool al) ∧ w'.cell? ⟨w.heap.size + 1, 4, none⟩ = some (.string pa) ∧ w'.cell? ⟨w.heap.size + 1, 5, none⟩ = some (.bool se) ∧ w'.cell? ⟨w.heap.size + 1, 6, none⟩ = some (.int .i64 mo) ∧ w'.cell? ⟨w.heap.size + 1, 7, none⟩ = some (.string pt) ∧ w'.cell? ⟨w.heap.size + 1, 8, none⟩ = some (.int .i64 un) ∧ w'.cell? ⟨w.heap.size + 1, 9, none⟩ = some (.int .i64 ma)) (go_keep)
        (first | (go_at_call 116; refine (KP.out _).mono ?_; rintro e w2 ⟨rfl, hb2⟩; have A2 : Below W0.heap.size W0 w2 := (Below.drew (Below.refl _ _)).trans hb2; have l0 : w2.cell? ⟨w.heap.size, 0, none⟩ = some (.string ho2) := ((bcell A2).1 _ _ z0).trans p0; have l1 : w2.cell? ⟨w.heap.size, 1, none⟩ = some (.bool al2) := ((bcell A2).1 _ _ z0).trans p1; have l2 : w2.cell? ⟨w.heap.size, 2, none⟩ = some (.string pa2) := ((bcell A2).1 _ _ z0).trans p2; have l3 : w2.cell? ⟨w.heap.size, 3, none⟩ = some (.string pt2) := ((bcell A2).1 _ _ z0).trans p3; have l4 : w2.cell? ⟨w.heap.size, 4, none⟩ = some (.string na2) := ((bcell A2).1 _ _ z0).trans p4; have m0 : w2.cell? ⟨w.heap.size + 1, 0, none⟩ = some (.string na) := ((bcell A2).1 _ _ z1).trans q0; have m1 : w2.cell? ⟨w.heap.size + 1, 1, none⟩ = some (.string va) := ((bcell A2).1 _ _ z1).trans q1; have m2 : w2.cell? ⟨w.heap.size + 1, 2, none⟩ = some (.string ho) := ((bcell A2).1 _ _ z1).trans q2; have m3 : w2.cell? ⟨w.heap.size + 1, 3, none⟩ = some (.bool al) := ((bcell A2).1 _ _ z1).trans q3; have m4 : w2.cell? ⟨w.heap.size + 1, 4, none⟩ = some (.string pa) := ((bcell A2).1 _ _ z1).trans q4; have m5 : w2.cell? ⟨w.heap.size + 1, 5, none⟩ = some (.bool se) := ((bcell A2).1 _ _ z1).trans q5; have m6 : w2.cell? ⟨w.heap.size + 1, 6, none⟩ = some (.int .i64 mo) := ((bcell A2).1 _ _ z1).trans q6; have m7 : w2.cell? ⟨w.heap.size + 1, 7, none⟩ = some (.string pt) := ((bcell A2).1 _ _ z1).trans q7; have m8 : w2.cell? ⟨w.heap.size + 1, 8, none⟩ = some (.int .i64 un) := ((bcell A2).1 _ _ z1).trans q8; have m9 : w2.cell? ⟨w.heap.size + 1, 9, none⟩ = some (.int .i64 ma) := ((bcell A2).1 _ _ z1).trans q9))
      have B2 : Hid (Below w.heap.size w w2) := HB.out.trans (A2.mono HB.out.size)
      all_goals go_wp2
      all_goals go_ret
      all_goals exact ⟨ret_bool HQ.out.symm, B2.out⟩
    | true =>
      cases h2 : (pa2.toList == pa.toList) with
      | false =>
        have HQ : Hid (R = false) := by show _ = _; rw [HE.out]; simp only [*]; try rfl
        go_enter Tryd.func117, Tryd.ntmps117
        go_wp2_with fail
        rw [← hW0.out]
        go_region_held3 (fun w' => w'.cell? ⟨w.heap.size, 0, none⟩ = some (.string ho2) ∧ w'.cell? ⟨w.heap.size, 1, none⟩ = some (.bool al2) ∧ w'.cell? ⟨w.heap.size, 2, none⟩ = some (.string pa2) ∧ w'.cell? ⟨w.heap.size, 3, none⟩ = some (.string pt2) ∧ w'.cell? ⟨w.heap.size, 4, none⟩ = some (.string na2) ∧ w'.cell? ⟨w.heap.size + 1, 0, none⟩ = some (.string na) ∧ w'.cell? ⟨w.heap.size + 1, 1, none⟩ = some (.string va) ∧ w'.cell? ⟨w.heap.size + 1, 2, none⟩ = some (.string ho) ∧ w'.cell? ⟨w.heap.size + 1, 3, none⟩ = some (.bool al) ∧ w'.cell? ⟨w.heap.size + 1, 4, none⟩ = some (.string pa) ∧ w'.cell? ⟨w.heap.size + 1, 5, none⟩ = some (.bool se) ∧ w'.cell? ⟨w.heap.size + 1, 6, none⟩ = some (.int .i64 mo) ∧ w'.cell? ⟨w.heap.size + 1, 7, none⟩ = some (.string pt) ∧ w'.cell? ⟨w.heap.size + 1, 8, none⟩ = some (.int .i64 un) ∧ w'.cell? ⟨w.heap.size + 1, 9, none⟩ = some (.int .i64 ma)) (go_keep)
          (first | (go_at_call 116; refine (KP.out _).mono ?_; rintro e w2 ⟨rfl, hb2⟩; have A2 : Below W0.heap.size W0 w2 := (Below.drew (Below.refl _ _)).trans hb2; have l0 : w2.cell? ⟨w.heap.size, 0, none⟩ = some (.string ho2) := ((bcell A2).1 _ _ z0).trans p0; have l1 : w2.cell? ⟨w.heap.size, 1, none⟩ = some (.bool al2) := ((bcell A2).1 _ _ z0).trans p1; have l2 : w2.cell? ⟨w.heap.size, 2, none⟩ = some (.string pa2) := ((bcell A2).1 _ _ z0).trans p2; have l3 : w2.cell? ⟨w.heap.size, 3, none⟩ = some (.string pt2) := ((bcell A2).1 _ _ z0).trans p3; have l4 : w2.cell? ⟨w.heap.size, 4, none⟩ = some (.string na2) := ((bcell A2).1 _ _ z0).trans p4; have m0 : w2.cell? ⟨w.heap.size + 1, 0, none⟩ = some (.string na) := ((bcell A2).1 _ _ z1).trans q0; have m1 : w2.cell? ⟨w.heap.size + 1, 1, none⟩ = some (.string va) := ((bcell A2).1 _ _ z1).trans q1; have m2 : w2.cell? ⟨w.heap.size + 1, 2, none⟩ = some (.string ho) := ((bcell A2).1 _ _ z1).trans q2; have m3 : w2.cell? ⟨w.heap.size + 1, 3, none⟩ = some (.bool al) := ((bcell A2).1 _ _ z1).trans q3; have m4 : w2.cell? ⟨w.heap.size + 1, 4, none⟩ = some (.string pa) := ((bcell A2).1 _ _ z1).trans q4; have m5 : w2.cell? ⟨w.heap.size + 1, 5, none⟩ = some (.bool se) := ((bcell A2).1 _ _ z1).trans q5; have m6 : w2.cell? ⟨w.heap.size + 1, 6, none⟩ = some (.int .i64 mo) := ((bcell A2).1 _ _ z1).trans q6; have m7 : w2.cell? ⟨w.heap.size + 1, 7, none⟩ = some (.string pt) := ((bcell A2).1 _ _ z1).trans q7; have m8 : w2.cell? ⟨w.heap.size + 1, 8, none⟩ = some (.int .i64 un) := ((bcell A2).1 _ _ z1).trans q8; have m9 : w2.cell? ⟨w.heap.size + 1, 9, none⟩ = some (.int .i64 ma) := ((bcell A2).1 _ _ z1).trans q9))
        have B2 : Hid (Below w.heap.size w w2) := HB.out.trans (A2.mono HB.out.size)
        all_goals go_wp2
        all_goals go_ret
        all_goals exact ⟨ret_bool HQ.out.symm, B2.out⟩
      | true =>
        cases h3 : (pt2.toList == pt.toList) with
        | false =>
          have HQ : Hid (R = false) := by show _ = _; rw [HE.out]; simp only [*]; try rfl
          go_enter Tryd.func117, Tryd.ntmps117
          go_wp2_with fail
          rw [← hW0.out]
          go_region_held3 (fun w' => w'.cell? ⟨w.heap.size, 0, none⟩ = some (.string ho2) ∧ w'.cell? ⟨w.heap.size, 1, none⟩ = some (.bool al2) ∧ w'.cell? ⟨w.heap.size, 2, none⟩ = some (.string pa2) ∧ w'.cell? ⟨w.heap.size, 3, none⟩ = some (.string pt2) ∧ w'.cell? ⟨w.heap.size, 4, none⟩ = some (.string na2) ∧ w'.cell? ⟨w.heap.size + 1, 0, none⟩ = some (.string na) ∧ w'.cell? ⟨w.heap.size + 1, 1, none⟩ = some (.string va) ∧ w'.cell? ⟨w.heap.size + 1, 2, none⟩ = some (.string ho) ∧ w'.cell? ⟨w.heap.size + 1, 3, none⟩ = some (.bool al) ∧ w'.cell? ⟨w.heap.size + 1, 4, none⟩ = some (.string pa) ∧ w'.cell? ⟨w.heap.size + 1, 5, none⟩ = some (.bool se) ∧ w'.cell? ⟨w.heap.size + 1, 6, none⟩ = some (.int .i64 mo) ∧ w'.cell? ⟨w.heap.size + 1, 7, none⟩ = some (.string pt) ∧ w'.cell? ⟨w.heap.size + 1, 8, none⟩ = some (.int .i64 un) ∧ w'.cell? ⟨w.heap.size + 1, 9, none⟩ = some (.int .i64 ma)) (go_keep)
            (first | (go_at_call 116; refine (KP.out _).mono ?_; rintro e w2 ⟨rfl, hb2⟩; have A2 : Below W0.heap.size W0 w2 := (Below.drew (Below.refl _ _)).trans hb2; have l0 : w2.cell? ⟨w.heap.size, 0, none⟩ = some (.string ho2) := ((bcell A2).1 _ _ z0).trans p0; have l1 : w2.cell? ⟨w.heap.size, 1, none⟩ = some (.bool al2) := ((bcell A2).1 _ _ z0).trans p1; have l2 : w2.cell? ⟨w.heap.size, 2, none⟩ = some (.string pa2) := ((bcell A2).1 _ _ z0).trans p2; have l3 : w2.cell? ⟨w.heap.size, 3, none⟩ = some (.string pt2) := ((bcell A2).1 _ _ z0).trans p3; have l4 : w2.cell? ⟨w.heap.size, 4, none⟩ = some (.string na2) := ((bcell A2).1 _ _ z0).trans p4; have m0 : w2.cell? ⟨w.heap.size + 1, 0, none⟩ = some (.string na) := ((bcell A2).1 _ _ z1).trans q0; have m1 : w2.cell? ⟨w.heap.size + 1, 1, none⟩ = some (.string va) := ((bcell A2).1 _ _ z1).trans q1; have m2 : w2.cell? ⟨w.heap.size + 1, 2, none⟩ = some (.string ho) := ((bcell A2).1 _ _ z1).trans q2; have m3 : w2.cell? ⟨w.heap.size + 1, 3, none⟩ = some (.bool al) := ((bcell A2).1 _ _ z1).trans q3; have m4 : w2.cell? ⟨w.heap.size + 1, 4, none⟩ = some (.string pa) := ((bcell A2).1 _ _ z1).trans q4; have m5 : w2.cell? ⟨w.heap.size + 1, 5, none⟩ = some (.bool se) := ((bcell A2).1 _ _ z1).trans q5; have m6 : w2.cell? ⟨w.heap.size + 1, 6, none⟩ = some (.int .i64 mo) := ((bcell A2).1 _ _ z1).trans q6; have m7 : w2.cell? ⟨w.heap.size + 1, 7, none⟩ = some (.string pt) := ((bcell A2).1 _ _ z1).trans q7; have m8 : w2.cell? ⟨w.heap.size + 1, 8, none⟩ = some (.int .i64 un) := ((bcell A2).1 _ _ z1).trans q8; have m9 : w2.cell? ⟨w.heap.size + 1, 9, none⟩ = some (.int .i64 ma) := ((bcell A2).1 _ _ z1).trans q9))
          have B2 : Hid (Below w.heap.size w w2) := HB.out.trans (A2.mono HB.out.size)
          all_goals go_wp2
          all_goals go_ret
          all_goals exact ⟨ret_bool HQ.out.symm, B2.out⟩
        | true =>
          cases h4 : (na2.toList == na.toList) with
          | false =>
            have HQ : Hid (R = false) := by show _ = _; rw [HE.out]; simp only [*]; try rfl
            go_enter Tryd.func117, Tryd.ntmps117
            go_wp2_with fail
            rw [← hW0.out]
            go_region_held3 (fun w' => w'.cell? ⟨w.heap.size, 0, none⟩ = some (.string ho2) ∧ w'.cell? ⟨w.heap.size, 1, none⟩ = some (.bool al2) ∧ w'.cell? ⟨w.heap.size, 2, none⟩ = some (.string pa2) ∧ w'.cell? ⟨w.heap.size, 3, none⟩ = some (.string pt2) ∧ w'.cell? ⟨w.heap.size, 4, none⟩ = some (.string na2) ∧ w'.cell? ⟨w.heap.size + 1, 0, none⟩ = some (.string na) ∧ w'.cell? ⟨w.heap.size + 1, 1, none⟩ = some (.string va) ∧ w'.cell? ⟨w.heap.size + 1, 2, none⟩ = some (.string ho) ∧ w'.cell? ⟨w.heap.size + 1, 3, none⟩ = some (.bool al) ∧ w'.cell? ⟨w.heap.size + 1, 4, none⟩ = some (.string pa) ∧ w'.cell? ⟨w.heap.size + 1, 5, none⟩ = some (.bool se) ∧ w'.cell? ⟨w.heap.size + 1, 6, none⟩ = some (.int .i64 mo) ∧ w'.cell? ⟨w.heap.size + 1, 7, none⟩ = some (.string pt) ∧ w'.cell? ⟨w.heap.size + 1, 8, none⟩ = some (.int .i64 un) ∧ w'.cell? ⟨w.heap.size + 1, 9, none⟩ = some (.int .i64 ma)) (go_keep)
              (first | (go_at_call 116; refine (KP.out _).mono ?_; rintro e w2 ⟨rfl, hb2⟩; have A2 : Below W0.heap.size W0 w2 := (Below.drew (Below.refl _ _)).trans hb2; have l0 : w2.cell? ⟨w.heap.size, 0, none⟩ = some (.string ho2) := ((bcell A2).1 _ _ z0).trans p0; have l1 : w2.cell? ⟨w.heap.size, 1, none⟩ = some (.bool al2) := ((bcell A2).1 _ _ z0).trans p1; have l2 : w2.cell? ⟨w.heap.size, 2, none⟩ = some (.string pa2) := ((bcell A2).1 _ _ z0).trans p2; have l3 : w2.cell? ⟨w.heap.size, 3, none⟩ = some (.string pt2) := ((bcell A2).1 _ _ z0).trans p3; have l4 : w2.cell? ⟨w.heap.size, 4, none⟩ = some (.string na2) := ((bcell A2).1 _ _ z0).trans p4; have m0 : w2.cell? ⟨w.heap.size + 1, 0, none⟩ = some (.string na) := ((bcell A2).1 _ _ z1).trans q0; have m1 : w2.cell? ⟨w.heap.size + 1, 1, none⟩ = some (.string va) := ((bcell A2).1 _ _ z1).trans q1; have m2 : w2.cell? ⟨w.heap.size + 1, 2, none⟩ = some (.string ho) := ((bcell A2).1 _ _ z1).trans q2; have m3 : w2.cell? ⟨w.heap.size + 1, 3, none⟩ = some (.bool al) := ((bcell A2).1 _ _ z1).trans q3; have m4 : w2.cell? ⟨w.heap.size + 1, 4, none⟩ = some (.string pa) := ((bcell A2).1 _ _ z1).trans q4; have m5 : w2.cell? ⟨w.heap.size + 1, 5, none⟩ = some (.bool se) := ((bcell A2).1 _ _ z1).trans q5; have m6 : w2.cell? ⟨w.heap.size + 1, 6, none⟩ = some (.int .i64 mo) := ((bcell A2).1 _ _ z1).trans q6; have m7 : w2.cell? ⟨w.heap.size + 1, 7, none⟩ = some (.string pt) := ((bcell A2).1 _ _ z1).trans q7; have m8 : w2.cell? ⟨w.heap.size + 1, 8, none⟩ = some (.int .i64 un) := ((bcell A2).1 _ _ z1).trans q8; have m9 : w2.cell? ⟨w.heap.size + 1, 9, none⟩ = some (.int .i64 ma) := ((bcell A2).1 _ _ z1).trans q9))
            have B2 : Hid (Below w.heap.size w w2) := HB.out.trans (A2.mono HB.out.size)
            all_goals go_wp2
            all_goals go_ret
            all_goals exact ⟨ret_bool HQ.out.symm, B2.out⟩
          | true =>
            have HQ : Hid (R = true) := by show _ = _; rw [HE.out]; simp only [*]; try rfl
            go_enter Tryd.func117, Tryd.ntmps117
            go_wp2_with fail
            rw [← hW0.out]
            go_region_held3 (fun w' => w'.cell? ⟨w.heap.size, 0, none⟩ = some (.string ho2) ∧ w'.cell? ⟨w.heap.size, 1, none⟩ = some (.bool al2) ∧ w'.cell? ⟨w.heap.size, 2, none⟩ = some (.string pa2) ∧ w'.cell? ⟨w.heap.size, 3, none⟩ = some (.string pt2) ∧ w'.cell? ⟨w.heap.size, 4, none⟩ = some (.string na2) ∧ w'.cell? ⟨w.heap.size + 1, 0, none⟩ = some (.string na) ∧ w'.cell? ⟨w.heap.size + 1, 1, none⟩ = some (.string va) ∧ w'.cell? ⟨w.heap.size + 1, 2, none⟩ = some (.string ho) ∧ w'.cell? ⟨w.heap.size + 1, 3, none⟩ = some (.bool al) ∧ w'.cell? ⟨w.heap.size + 1, 4, none⟩ = some (.string pa) ∧ w'.cell? ⟨w.heap.size + 1, 5, none⟩ = some (.bool se) ∧ w'.cell? ⟨w.heap.size + 1, 6, none⟩ = some (.int .i64 mo) ∧ w'.cell? ⟨w.heap.size + 1, 7, none⟩ = some (.string pt) ∧ w'.cell? ⟨w.heap.size + 1, 8, none⟩ = some (.int .i64 un) ∧ w'.cell? ⟨w.heap.size + 1, 9, none⟩ = some (.int .i64 ma)) (go_keep)
              (first | (go_at_call 116; refine (KP.out _).mono ?_; rintro e w2 ⟨rfl, hb2⟩; have A2 : Below W0.heap.size W0 w2 := (Below.drew (Below.refl _ _)).trans hb2; have l0 : w2.cell? ⟨w.heap.size, 0, none⟩ = some (.string ho2) := ((bcell A2).1 _ _ z0).trans p0; have l1 : w2.cell? ⟨w.heap.size, 1, none⟩ = some (.bool al2) := ((bcell A2).1 _ _ z0).trans p1; have l2 : w2.cell? ⟨w.heap.size, 2, none⟩ = some (.string pa2) := ((bcell A2).1 _ _ z0).trans p2; have l3 : w2.cell? ⟨w.heap.size, 3, none⟩ = some (.string pt2) := ((bcell A2).1 _ _ z0).trans p3; have l4 : w2.cell? ⟨w.heap.size, 4, none⟩ = some (.string na2) := ((bcell A2).1 _ _ z0).trans p4; have m0 : w2.cell? ⟨w.heap.size + 1, 0, none⟩ = some (.string na) := ((bcell A2).1 _ _ z1).trans q0; have m1 : w2.cell? ⟨w.heap.size + 1, 1, none⟩ = some (.string va) := ((bcell A2).1 _ _ z1).trans q1; have m2 : w2.cell? ⟨w.heap.size + 1, 2, none⟩ = some (.string ho) := ((bcell A2).1 _ _ z1).trans q2; have m3 : w2.cell? ⟨w.heap.size + 1, 3, none⟩ = some (.bool al) := ((bcell A2).1 _ _ z1).trans q3; have m4 : w2.cell? ⟨w.heap.size + 1, 4, none⟩ = some (.string pa) := ((bcell A2).1 _ _ z1).trans q4; have m5 : w2.cell? ⟨w.heap.size + 1, 5, none⟩ = some (.bool se) := ((bcell A2).1 _ _ z1).trans q5; have m6 : w2.cell? ⟨w.heap.size + 1, 6, none⟩ = some (.int .i64 mo) := ((bcell A2).1 _ _ z1).trans q6; have m7 : w2.cell? ⟨w.heap.size + 1, 7, none⟩ = some (.string pt) := ((bcell A2).1 _ _ z1).trans q7; have m8 : w2.cell? ⟨w.heap.size + 1, 8, none⟩ = some (.int .i64 un) := ((bcell A2).1 _ _ z1).trans q8; have m9 : w2.cell? ⟨w.heap.size + 1, 9, none⟩ = some (.int .i64 ma) := ((bcell A2).1 _ _ z1).trans q9))
            have B2 : Hid (Below w.heap.size w w2) := HB.out.trans (A2.mono HB.out.size)
            all_goals go_wp2
            all_goals go_ret
            all_goals exact ⟨ret_bool HQ.out.symm, B2.out⟩

/-- one of the first k is of this place -/
def hasK (L : List Ck) (k : Nat) (a : Ck) : Bool := !decide (∀ j, j < k → sameK (atC L j) a = false)
theorem hasK_yes {L : List Ck} {k : Nat} {a : Ck} (j : Nat) (hj : j < k) (h : sameK a (atC L j) = true) : hasK L k a = true := by
  unfold hasK
  rw [decide_eq_false (fun h' => by rw [sameK_comm, h' j hj] at h; cases h)]; rfl
theorem hasK_no {L : List Ck} {k : Nat} {a : Ck} (h : ∀ j, j < k → sameK a (atC L j) = false) : hasK L k a = false := by
  unfold hasK
  rw [decide_eq_true (fun j hj => by rw [sameK_comm]; exact h j hj)]; rfl
set_option maxRecDepth 10000 in
set_option maxHeartbeats 4000000 in
theorem containsHas_any (g k : Nat) (L : List Ck) (a : Ck) (w : World) (hg : g < w.heap.size) (hk : k ≤ L.length) (hn : L.length ≤ 1048576) (hc : ∀ j, j < k → ∀ o, o < 10 → w.cell? ⟨g, j * 10 + o, none⟩ = some (ckC (atC L j) o)) :
    Calls Tryd.prog 115 #[.slice (some ⟨g, 0, none⟩) k k, .func (.func 117) #[placeV a] #[]] w fun e w' => e = .returned (.bool (hasK L k a)) ∧ Below w.heap.size w w' := by
  have KI : Hid (Calls Tryd.prog 151 #[.slice (some ⟨g, 0, none⟩) k k, .func (.func 117) #[placeV a] #[]] w fun e w' => (∃ r : Int, e = .returned (.int .i64 r) ∧ decide (0 ≤ r) = hasK L k a) ∧ Below w.heap.size w w') := by
    show Calls _ _ _ _ _
    have KH : Hid (∀ j W, Calls Tryd.prog 117 #[placeV a, ckV (atC L j)] W fun e w' => e = .returned (.bool (sameK a (atC L j))) ∧ Below W.heap.size W w') := fun j W => has_any a (atC L j) W
    have HY : Hid (∀ j, j < k → sameK a (atC L j) = true → hasK L k a = true) := fun j a b => hasK_yes j a b
    have HN : Hid ((∀ j, j < k → sameK a (atC L j) = false) → hasK L k a = false) := fun h => hasK_no h
    have HC : Hid (∀ j, j < k → ∀ o, o < 10 → w.cell? ⟨g, j * 10 + o, none⟩ = some (ckC (atC L j) o)) := hc
    clear hc
    generalize hasK L k a = R at *
    go_enter Tryd.func151, Tryd.ntmps151
    go_wp2
    go_loopw [8] (fun i wr => ∃ j : Nat, j ≤ k ∧ i = .int .i64 j ∧ Hid (Below w.heap.size w wr) ∧ Hid (∀ i', i' < j → sameK a (atC L i') = false)) (fun i _ => k - (intOf i).toNat)
    case atStart => exact ⟨0, Nat.zero_le _, rfl, Below.refl _ _, fun j hj => absurd hj (by omega)⟩
    case round =>
      obtain ⟨j, hj, rfl, HB, HR⟩ := hrel
      by_cases hlt : j < k
      · have KH0 := KH.out j
        have j0 : (0 : Int) ≤ j := by omega
        have j1 : (j : Int) < k := by omega
        have HY1 : Hid (sameK a (atC L j) = true → R = true) := HY.out j hlt
        have HN1 : Hid (sameK a (atC L j) = false → ∀ i', i' < j + 1 → sameK a (atC L i') = false) := fun e i' hi' => by
          by_cases e2 : i' = j
          · subst e2; exact e
          · exact HR.out i' (by omega)
        have c0 : wr.cell? ⟨g, j * 10, none⟩ = some (.string (atC L j).na) := by rw [(bcell HB.out).1 _ _ hg]; exact HC.out j hlt 0 (by omega)
        have c1 : wr.cell? ⟨g, j * 10 + 1, none⟩ = some (.string (atC L j).va) := by rw [(bcell HB.out).1 _ _ hg]; exact HC.out j hlt 1 (by omega)
        have c2 : wr.cell? ⟨g, j * 10 + 2, none⟩ = some (.string (atC L j).ho) := by rw [(bcell HB.out).1 _ _ hg]; exact HC.out j hlt 2 (by omega)
        have c3 : wr.cell? ⟨g, j * 10 + 3, none⟩ = some (.bool (atC L j).al) := by rw [(bcell HB.out).1 _ _ hg]; exact HC.out j hlt 3 (by omega)
        have c4 : wr.cell? ⟨g, j * 10 + 4, none⟩ = some (.string (atC L j).pa) := by rw [(bcell HB.out).1 _ _ hg]; exact HC.out j hlt 4 (by omega)
        have c5 : wr.cell? ⟨g, j * 10 + 5, none⟩ = some (.bool (atC L j).se) := by rw [(bcell HB.out).1 _ _ hg]; exact HC.out j hlt 5 (by omega)
        have c6 : wr.cell? ⟨g, j * 10 + 6, none⟩ = some (.int .i64 (atC L j).mo) := by rw [(bcell HB.out).1 _ _ hg]; exact HC.out j hlt 6 (by omega)
        have c7 : wr.cell? ⟨g, j * 10 + 7, none⟩ = some (.string (atC L j).pt) := by rw [(bcell HB.out).1 _ _ hg]; exact HC.out j hlt 7 (by omega)
        have c8 : wr.cell? ⟨g, j * 10 + 8, none⟩ = some (.int .i64 (atC L j).un) := by rw [(bcell HB.out).1 _ _ hg]; exact HC.out j hlt 8 (by omega)
        have c9 : wr.cell? ⟨g, j * 10 + 9, none⟩ = some (.int .i64 (atC L j).ma) := by rw [(bcell HB.out).1 _ _ hg]; exact HC.out j hlt 9 (by omega)
        generalize hsm : sameK a (atC L j) = sm at *
        clear hsm
        generalize atC L j = y at *
        obtain ⟨na, va, ho, al, pa, se, mo, pt, un, ma⟩ := y
        unfold ckV at KH0
        dsimp only at *
        have KC : Hid (∀ W, Calls Tryd.prog 117 #[placeV a, .agg #[.string na, .string va, .string ho, .bool al, .string pa, .bool se, .int .i64 mo, .string pt, .int .i64 un, .int .i64 ma]] W fun e w' => e = .returned (.bool sm) ∧ Below W.heap.size W w') := KH0
        clear KH0
        generalize placeV a = pv at *
        go_wp2_with fail
        refine (KC.out _).mono ?_
        rintro e w2 ⟨rfl, hb2⟩
        have B2 : Hid (Below w.heap.size w w2) := HB.out.trans (hb2.mono HB.out.size)
        clear hb2
        cases sm with
        | true =>
          have HQ : Hid (R = true) := HY1.out rfl
          go_wp2
          go_ret
          exact ⟨⟨_, rfl, by rw [HQ.out, decide_eq_true_iff]; omega⟩, B2.out⟩
        | false =>
          have HN2 : Hid (∀ i', i' < j + 1 → sameK a (atC L i') = false) := HN1.out rfl
          go_wp2
          go_roundw
          case rel => exact ⟨j + 1, by omega, by go_num, B2, HN2⟩
          case measure => simp [intOf]; omega
      · have HQ : Hid (R = false) := HN.out (fun i hi => HR.out i (by omega))
        go_wp2
        go_ret
        exact ⟨⟨_, rfl, by rw [HQ.out]; decide⟩, HB.out⟩
  generalize hasK L k a = R at *
  generalize placeV a = pv at *
  go_enter Tryd.func115, Tryd.ntmps115
  go_wp2_with fail
  refine KI.out.mono ?_
  rintro e w2 ⟨⟨r, rfl, hr⟩, hb2⟩
  have HQ : Hid (decide (0 ≤ r) = R) := hr
  clear hr
  go_wp2
  go_ret
  exact ⟨ret_bool HQ.out, hb2⟩
end Go.Proofs.YtfoekelhcmlagaaDoor

/- The walks of the program's isSmall, isDigit, inWord and WordRight. Written by implword.py. -/
namespace Go.Proofs.YtfoekelhcmlagaaDoor
open Go.RowKit

def betw (n lo hi : Nat) : Bool := decide (lo ≤ n ∧ n ≤ hi)
theorem betw_yes {n lo hi : Nat} (h1 : lo ≤ n) (h2 : n ≤ hi) : betw n lo hi = true := by unfold betw; rw [decide_eq_true_iff]; exact ⟨h1, h2⟩
theorem betw_no {n lo hi : Nat} (h : ¬ (lo ≤ n ∧ n ≤ hi)) : betw n lo hi = false := by unfold betw; rw [decide_eq_false_iff_not]; exact h
set_option maxRecDepth 10000 in
theorem isSmallW_any (n : Nat) (w : World) : Calls Tryd.prog 208 #[.int .u8 (n : Int)] w fun e w' => e = .returned (.bool (betw n 97 122)) ∧ w' = w := by
  rcases (show (n < 97) ∨ (97 ≤ n ∧ n ≤ 122) ∨ (122 < n) by omega) with c1 | ⟨c1, c2⟩ | c1
  · have b1 : decide ((97 : Int) ≤ (n : Int)) = false := by rw [decide_eq_false_iff_not]; omega
    go_enter Tryd.func208, Tryd.ntmps208
    go_wp2
    go_ret
    exact ⟨ret_bool (betw_no (by omega)).symm, rfl⟩
  · go_enter Tryd.func208, Tryd.ntmps208
    go_wp2
    go_ret
    exact ⟨ret_bool (by rw [betw_yes c1 c2, decide_eq_true_iff]; omega), rfl⟩
  · have b1 : decide ((n : Int) ≤ 122) = false := by rw [decide_eq_false_iff_not]; omega
    go_enter Tryd.func208, Tryd.ntmps208
    go_wp2
    go_ret
    exact ⟨ret_bool (betw_no (by omega)).symm, rfl⟩
set_option maxRecDepth 10000 in
theorem isDigitW_any (n : Nat) (w : World) : Calls Tryd.prog 209 #[.int .u8 (n : Int)] w fun e w' => e = .returned (.bool (betw n 48 57)) ∧ w' = w := by
  rcases (show (n < 48) ∨ (48 ≤ n ∧ n ≤ 57) ∨ (57 < n) by omega) with c1 | ⟨c1, c2⟩ | c1
  · have b1 : decide ((48 : Int) ≤ (n : Int)) = false := by rw [decide_eq_false_iff_not]; omega
    go_enter Tryd.func209, Tryd.ntmps209
    go_wp2
    go_ret
    exact ⟨ret_bool (betw_no (by omega)).symm, rfl⟩
  · go_enter Tryd.func209, Tryd.ntmps209
    go_wp2
    go_ret
    exact ⟨ret_bool (by rw [betw_yes c1 c2, decide_eq_true_iff]; omega), rfl⟩
  · have b1 : decide ((n : Int) ≤ 57) = false := by rw [decide_eq_false_iff_not]; omega
    go_enter Tryd.func209, Tryd.ntmps209
    go_wp2
    go_ret
    exact ⟨ret_bool (betw_no (by omega)).symm, rfl⟩
set_option maxRecDepth 10000 in
set_option maxHeartbeats 2000000 in
theorem inWord_any (n : Nat) (w : World) : Calls Tryd.prog 185 #[.int .u8 (n : Int)] w fun e w' => e = .returned (.bool (wordC n)) ∧ w' = w := by
  have K1 : Hid (∀ W, Calls Tryd.prog 208 #[.int .u8 (n : Int)] W fun e w' => e = .returned (.bool (betw n 97 122)) ∧ w' = W) := fun W => isSmallW_any n W
  have K2 : Hid (∀ W, Calls Tryd.prog 209 #[.int .u8 (n : Int)] W fun e w' => e = .returned (.bool (betw n 48 57)) ∧ w' = W) := fun W => isDigitW_any n W
  rcases (show (n ≤ 44) ∨ (45 ≤ n ∧ n ≤ 45) ∨ (46 ≤ n ∧ n ≤ 46) ∨ (47 ≤ n ∧ n ≤ 47) ∨ (48 ≤ n ∧ n ≤ 57) ∨ (58 ≤ n ∧ n ≤ 64) ∨ (65 ≤ n ∧ n ≤ 90) ∨ (91 ≤ n ∧ n ≤ 94) ∨ (95 ≤ n ∧ n ≤ 95) ∨ (96 ≤ n ∧ n ≤ 96) ∨ (97 ≤ n ∧ n ≤ 122) ∨ (123 ≤ n) by omega)
    with c1 | ⟨c1, c2⟩ | ⟨c1, c2⟩ | ⟨c1, c2⟩ | ⟨c1, c2⟩ | ⟨c1, c2⟩ | ⟨c1, c2⟩ | ⟨c1, c2⟩ | ⟨c1, c2⟩ | ⟨c1, c2⟩ | ⟨c1, c2⟩ | c1
  · have HW : Hid (wordC n = false) := wordC_no (by omega)
    rw [betw_no (by omega)] at K1
    rw [betw_no (by omega)] at K2
    have b1 : decide ((65 : Int) ≤ (n : Int)) = false := by rw [decide_eq_false_iff_not]; omega
    have b2 : decide ((n : Int) ≤ 90) = true := by rw [decide_eq_true_iff]; omega
    have b3 : ((n : Int) == 95) = false := by rw [beq_eq_false_iff_ne]; omega
    have b4 : ((n : Int) == 45) = false := by rw [beq_eq_false_iff_ne]; omega
    have b5 : ((n : Int) == 46) = false := by rw [beq_eq_false_iff_ne]; omega
    go_enter Tryd.func185, Tryd.ntmps185
    go_wp2_with (first | (go_at_call 208; refine (K1.out _).mono ?_; rintro e w1 ⟨rfl, rfl⟩) | (go_at_call 209; refine (K2.out _).mono ?_; rintro e w2 ⟨rfl, rfl⟩))
    go_ret
    exact ⟨ret_bool HW.out.symm, rfl⟩
  · have HW : Hid (wordC n = true) := wordC_yes (by omega)
    rw [betw_no (by omega)] at K1
    rw [betw_no (by omega)] at K2
    have b1 : decide ((65 : Int) ≤ (n : Int)) = false := by rw [decide_eq_false_iff_not]; omega
    have b2 : decide ((n : Int) ≤ 90) = true := by rw [decide_eq_true_iff]; omega
    have b3 : ((n : Int) == 95) = false := by rw [beq_eq_false_iff_ne]; omega
    have b4 : ((n : Int) == 45) = true := by rw [beq_iff_eq]; omega
    have b5 : ((n : Int) == 46) = false := by rw [beq_eq_false_iff_ne]; omega
    go_enter Tryd.func185, Tryd.ntmps185
    go_wp2_with (first | (go_at_call 208; refine (K1.out _).mono ?_; rintro e w1 ⟨rfl, rfl⟩) | (go_at_call 209; refine (K2.out _).mono ?_; rintro e w2 ⟨rfl, rfl⟩))
    go_ret
    exact ⟨ret_bool HW.out.symm, rfl⟩
  · have HW : Hid (wordC n = true) := wordC_yes (by omega)
    rw [betw_no (by omega)] at K1
    rw [betw_no (by omega)] at K2
    have b1 : decide ((65 : Int) ≤ (n : Int)) = false := by rw [decide_eq_false_iff_not]; omega
    have b2 : decide ((n : Int) ≤ 90) = true := by rw [decide_eq_true_iff]; omega
    have b3 : ((n : Int) == 95) = false := by rw [beq_eq_false_iff_ne]; omega
    have b4 : ((n : Int) == 45) = false := by rw [beq_eq_false_iff_ne]; omega
    have b5 : ((n : Int) == 46) = true := by rw [beq_iff_eq]; omega
    go_enter Tryd.func185, Tryd.ntmps185
    go_wp2_with (first | (go_at_call 208; refine (K1.out _).mono ?_; rintro e w1 ⟨rfl, rfl⟩) | (go_at_call 209; refine (K2.out _).mono ?_; rintro e w2 ⟨rfl, rfl⟩))
    go_ret
    exact ⟨ret_bool HW.out.symm, rfl⟩
  · have HW : Hid (wordC n = false) := wordC_no (by omega)
    rw [betw_no (by omega)] at K1
    rw [betw_no (by omega)] at K2
    have b1 : decide ((65 : Int) ≤ (n : Int)) = false := by rw [decide_eq_false_iff_not]; omega
    have b2 : decide ((n : Int) ≤ 90) = true := by rw [decide_eq_true_iff]; omega
    have b3 : ((n : Int) == 95) = false := by rw [beq_eq_false_iff_ne]; omega
    have b4 : ((n : Int) == 45) = false := by rw [beq_eq_false_iff_ne]; omega
    have b5 : ((n : Int) == 46) = false := by rw [beq_eq_false_iff_ne]; omega
    go_enter Tryd.func185, Tryd.ntmps185
    go_wp2_with (first | (go_at_call 208; refine (K1.out _).mono ?_; rintro e w1 ⟨rfl, rfl⟩) | (go_at_call 209; refine (K2.out _).mono ?_; rintro e w2 ⟨rfl, rfl⟩))
    go_ret
    exact ⟨ret_bool HW.out.symm, rfl⟩
  · have HW : Hid (wordC n = true) := wordC_yes (by omega)
    rw [betw_no (by omega)] at K1
    rw [betw_yes (by omega) (by omega)] at K2
    have b1 : decide ((65 : Int) ≤ (n : Int)) = false := by rw [decide_eq_false_iff_not]; omega
    have b2 : decide ((n : Int) ≤ 90) = true := by rw [decide_eq_true_iff]; omega
    have b3 : ((n : Int) == 95) = false := by rw [beq_eq_false_iff_ne]; omega
    have b4 : ((n : Int) == 45) = false := by rw [beq_eq_false_iff_ne]; omega
    have b5 : ((n : Int) == 46) = false := by rw [beq_eq_false_iff_ne]; omega
    go_enter Tryd.func185, Tryd.ntmps185
    go_wp2_with (first | (go_at_call 208; refine (K1.out _).mono ?_; rintro e w1 ⟨rfl, rfl⟩) | (go_at_call 209; refine (K2.out _).mono ?_; rintro e w2 ⟨rfl, rfl⟩))
    go_ret
    exact ⟨ret_bool HW.out.symm, rfl⟩
  · have HW : Hid (wordC n = false) := wordC_no (by omega)
    rw [betw_no (by omega)] at K1
    rw [betw_no (by omega)] at K2
    have b1 : decide ((65 : Int) ≤ (n : Int)) = false := by rw [decide_eq_false_iff_not]; omega
    have b2 : decide ((n : Int) ≤ 90) = true := by rw [decide_eq_true_iff]; omega
    have b3 : ((n : Int) == 95) = false := by rw [beq_eq_false_iff_ne]; omega
    have b4 : ((n : Int) == 45) = false := by rw [beq_eq_false_iff_ne]; omega
    have b5 : ((n : Int) == 46) = false := by rw [beq_eq_false_iff_ne]; omega
    go_enter Tryd.func185, Tryd.ntmps185
    go_wp2_with (first | (go_at_call 208; refine (K1.out _).mono ?_; rintro e w1 ⟨rfl, rfl⟩) | (go_at_call 209; refine (K2.out _).mono ?_; rintro e w2 ⟨rfl, rfl⟩))
    go_ret
    exact ⟨ret_bool HW.out.symm, rfl⟩
  · have HW : Hid (wordC n = true) := wordC_yes (by omega)
    rw [betw_no (by omega)] at K1
    rw [betw_no (by omega)] at K2
    have b1 : decide ((65 : Int) ≤ (n : Int)) = true := by rw [decide_eq_true_iff]; omega
    have b2 : decide ((n : Int) ≤ 90) = true := by rw [decide_eq_true_iff]; omega
    have b3 : ((n : Int) == 95) = false := by rw [beq_eq_false_iff_ne]; omega
    have b4 : ((n : Int) == 45) = false := by rw [beq_eq_false_iff_ne]; omega
    have b5 : ((n : Int) == 46) = false := by rw [beq_eq_false_iff_ne]; omega
    go_enter Tryd.func185, Tryd.ntmps185
    go_wp2_with (first | (go_at_call 208; refine (K1.out _).mono ?_; rintro e w1 ⟨rfl, rfl⟩) | (go_at_call 209; refine (K2.out _).mono ?_; rintro e w2 ⟨rfl, rfl⟩))
    go_ret
    exact ⟨ret_bool HW.out.symm, rfl⟩
  · have HW : Hid (wordC n = false) := wordC_no (by omega)
    rw [betw_no (by omega)] at K1
    rw [betw_no (by omega)] at K2
    have b1 : decide ((65 : Int) ≤ (n : Int)) = true := by rw [decide_eq_true_iff]; omega
    have b2 : decide ((n : Int) ≤ 90) = false := by rw [decide_eq_false_iff_not]; omega
    have b3 : ((n : Int) == 95) = false := by rw [beq_eq_false_iff_ne]; omega
    have b4 : ((n : Int) == 45) = false := by rw [beq_eq_false_iff_ne]; omega
    have b5 : ((n : Int) == 46) = false := by rw [beq_eq_false_iff_ne]; omega
    go_enter Tryd.func185, Tryd.ntmps185
    go_wp2_with (first | (go_at_call 208; refine (K1.out _).mono ?_; rintro e w1 ⟨rfl, rfl⟩) | (go_at_call 209; refine (K2.out _).mono ?_; rintro e w2 ⟨rfl, rfl⟩))
    go_ret
    exact ⟨ret_bool HW.out.symm, rfl⟩
  · have HW : Hid (wordC n = true) := wordC_yes (by omega)
    rw [betw_no (by omega)] at K1
    rw [betw_no (by omega)] at K2
    have b1 : decide ((65 : Int) ≤ (n : Int)) = true := by rw [decide_eq_true_iff]; omega
    have b2 : decide ((n : Int) ≤ 90) = false := by rw [decide_eq_false_iff_not]; omega
    have b3 : ((n : Int) == 95) = true := by rw [beq_iff_eq]; omega
    have b4 : ((n : Int) == 45) = false := by rw [beq_eq_false_iff_ne]; omega
    have b5 : ((n : Int) == 46) = false := by rw [beq_eq_false_iff_ne]; omega
    go_enter Tryd.func185, Tryd.ntmps185
    go_wp2_with (first | (go_at_call 208; refine (K1.out _).mono ?_; rintro e w1 ⟨rfl, rfl⟩) | (go_at_call 209; refine (K2.out _).mono ?_; rintro e w2 ⟨rfl, rfl⟩))
    go_ret
    exact ⟨ret_bool HW.out.symm, rfl⟩
  · have HW : Hid (wordC n = false) := wordC_no (by omega)
    rw [betw_no (by omega)] at K1
    rw [betw_no (by omega)] at K2
    have b1 : decide ((65 : Int) ≤ (n : Int)) = true := by rw [decide_eq_true_iff]; omega
    have b2 : decide ((n : Int) ≤ 90) = false := by rw [decide_eq_false_iff_not]; omega
    have b3 : ((n : Int) == 95) = false := by rw [beq_eq_false_iff_ne]; omega
    have b4 : ((n : Int) == 45) = false := by rw [beq_eq_false_iff_ne]; omega
    have b5 : ((n : Int) == 46) = false := by rw [beq_eq_false_iff_ne]; omega
    go_enter Tryd.func185, Tryd.ntmps185
    go_wp2_with (first | (go_at_call 208; refine (K1.out _).mono ?_; rintro e w1 ⟨rfl, rfl⟩) | (go_at_call 209; refine (K2.out _).mono ?_; rintro e w2 ⟨rfl, rfl⟩))
    go_ret
    exact ⟨ret_bool HW.out.symm, rfl⟩
  · have HW : Hid (wordC n = true) := wordC_yes (by omega)
    rw [betw_yes (by omega) (by omega)] at K1
    rw [betw_no (by omega)] at K2
    have b1 : decide ((65 : Int) ≤ (n : Int)) = true := by rw [decide_eq_true_iff]; omega
    have b2 : decide ((n : Int) ≤ 90) = false := by rw [decide_eq_false_iff_not]; omega
    have b3 : ((n : Int) == 95) = false := by rw [beq_eq_false_iff_ne]; omega
    have b4 : ((n : Int) == 45) = false := by rw [beq_eq_false_iff_ne]; omega
    have b5 : ((n : Int) == 46) = false := by rw [beq_eq_false_iff_ne]; omega
    go_enter Tryd.func185, Tryd.ntmps185
    go_wp2_with (first | (go_at_call 208; refine (K1.out _).mono ?_; rintro e w1 ⟨rfl, rfl⟩) | (go_at_call 209; refine (K2.out _).mono ?_; rintro e w2 ⟨rfl, rfl⟩))
    go_ret
    exact ⟨ret_bool HW.out.symm, rfl⟩
  · have HW : Hid (wordC n = false) := wordC_no (by omega)
    rw [betw_no (by omega)] at K1
    rw [betw_no (by omega)] at K2
    have b1 : decide ((65 : Int) ≤ (n : Int)) = true := by rw [decide_eq_true_iff]; omega
    have b2 : decide ((n : Int) ≤ 90) = false := by rw [decide_eq_false_iff_not]; omega
    have b3 : ((n : Int) == 95) = false := by rw [beq_eq_false_iff_ne]; omega
    have b4 : ((n : Int) == 45) = false := by rw [beq_eq_false_iff_ne]; omega
    have b5 : ((n : Int) == 46) = false := by rw [beq_eq_false_iff_ne]; omega
    go_enter Tryd.func185, Tryd.ntmps185
    go_wp2_with (first | (go_at_call 208; refine (K1.out _).mono ?_; rintro e w1 ⟨rfl, rfl⟩) | (go_at_call 209; refine (K2.out _).mono ?_; rintro e w2 ⟨rfl, rfl⟩))
    go_ret
    exact ⟨ret_bool HW.out.symm, rfl⟩

theorem wordB_long {t : ByteArray} (h : 20 < t.size) : wordB t = false := by unfold wordB; rw [decide_eq_false (show ¬ t.size ≤ 20 by omega), Bool.and_false]
set_option maxRecDepth 10000 in
set_option maxHeartbeats 2000000 in
theorem wordRight_any (t : ByteArray) (w : World) :
    Calls Tryd.prog 150 #[.string t] w fun e w' => e = .returned (.bool (wordB t)) ∧ w' = w := by
  by_cases h20 : 20 < t.size
  · have HR : Hid (wordB t = false) := wordB_long h20
    go_enter Tryd.func150, Tryd.ntmps150
    go_wp2
    go_ret
    exact ⟨ret_bool HR.out.symm, rfl⟩
  have HA : Hid ((∀ k (h : k < t.size), wordC t[k].toNat = false → wordB t = false) ∧ ((∀ i (h : i < t.size), wordC t[i].toNat = true) → wordB t = true)) := ⟨fun k h hk => wordB_at k h hk, fun h => by rw [wordB_all h, decide_eq_true_iff]; omega⟩
  generalize wordB t = R at *
  have q20 : decide ((20 : Int) < (t.size : Int)) = false := by rw [decide_eq_false_iff_not]; omega
  go_enter Tryd.func150, Tryd.ntmps150
  go_wp2
  go_loop [9] (fun i => ∃ k : Nat, k ≤ t.size ∧ i = .int .i64 k ∧ Hid (∀ i (h : i < t.size), i < k → wordC t[i].toNat = true)) (fun i => t.size - (intOf i).toNat)
  case atStart => exact ⟨0, Nat.zero_le _, rfl, fun i _ hi => absurd hi (by omega)⟩
  case round =>
    obtain ⟨k, hk, rfl, HR⟩ := hrel
    by_cases hlt : k < t.size
    · have k0 : (0 : Int) ≤ k := by omega
      have k1 : (k : Int) < t.size := by omega
      have KW : Hid (∀ W, Calls Tryd.prog 185 #[.int .u8 (t[k].toNat : Int)] W fun e w' => e = .returned (.bool (wordC t[k].toNat)) ∧ w' = W) := fun W => inWord_any _ W
      cases hc : wordC t[k].toNat with
      | true =>
        rw [hc] at KW
        have HN : Hid (∀ i (h : i < t.size), i < k + 1 → wordC t[i].toNat = true) := fun i h hi => by
          by_cases e : i = k
          · subst e; exact hc
          · exact HR.out i h (by omega)
        clear hc
        go_wp2_with (go_at_call 185; refine (KW.out _).mono ?_; rintro e w1 ⟨rfl, rfl⟩)
        go_round
        case rel => exact ⟨k + 1, by omega, by go_num, HN⟩
        case measure => simp [intOf]; omega
      | false =>
        rw [hc] at KW
        have HQ : Hid (R = false) := HA.out.1 k hlt hc
        clear hc
        go_wp2_with (go_at_call 185; refine (KW.out _).mono ?_; rintro e w1 ⟨rfl, rfl⟩)
        go_ret
        exact ⟨ret_bool HQ.out.symm, rfl⟩
    · go_wp2
      go_ret
      exact ⟨ret_bool (HA.out.2 (fun i h => HR.out i h (by omega))).symm, rfl⟩
end Go.Proofs.YtfoekelhcmlagaaDoor

/- The walk of the specification's l04PairRight. -/
namespace Go.Proofs.YtfoekelhcmlagaaDoor
open Go.RowKit

def pairV (na va : ByteArray) : Value := .agg #[.string na, .string va]
def pairB (na va : ByteArray) : Bool := !na.toList.isEmpty && wordB na && wordB va
end Go.Proofs.YtfoekelhcmlagaaDoor

/- The first place of a text in another one, and the number that digits tell, as plain functions. -/
namespace Go.Proofs.YtfoekelhcmlagaaDoor
/-- does x stand in t at place i? -/
def isAt (t x : ByteArray) (i : Nat) : Bool := (t.extract i (i + x.size)).toList == x.toList
/-- the first place of x in t among the first i ones -/
def findTo (t x : ByteArray) : Nat → Option Nat
  | 0 => none
  | i + 1 => match findTo t x i with
    | some k => some k
    | none => if i + x.size ≤ t.size ∧ isAt t x i = true then some i else none
def findN (t x : ByteArray) : Option Nat := findTo t x (t.size + 1)
/-- as the specification tells it: -1 of none -/
def findI (t x : ByteArray) : Int := match findN t x with | some k => (k : Int) | none => -1
theorem findTo_hit {t x : ByteArray} {i : Nat} (h : findTo t x i = none) (h1 : i + x.size ≤ t.size) (h2 : isAt t x i = true) : findTo t x (i + 1) = some i := by
  rw [findTo, h]; simp [h1, h2]
theorem findTo_miss {t x : ByteArray} {i : Nat} (h : findTo t x i = none) (h2 : ¬ (i + x.size ≤ t.size ∧ isAt t x i = true)) : findTo t x (i + 1) = none := by
  rw [findTo, h]; simp only; rw [if_neg h2]
theorem findTo_keep {t x : ByteArray} {i k : Nat} (h : findTo t x i = some k) (j : Nat) : findTo t x (i + j) = some k := by
  induction j with
  | zero => exact h
  | succ j ih => rw [← Nat.add_assoc, findTo, ih]
theorem findTo_after {t x : ByteArray} {i : Nat} (h : findTo t x i = none) (hi : t.size < i + x.size) (j : Nat) : findTo t x (i + j) = none := by
  induction j with
  | zero => exact h
  | succ j ih => rw [← Nat.add_assoc]; exact findTo_miss ih (by omega)
theorem findTo_lt {t x : ByteArray} {i k : Nat} (h : findTo t x i = some k) : k < i ∧ k + x.size ≤ t.size ∧ isAt t x k = true := by
  induction i with
  | zero => cases h
  | succ i ih =>
    rw [findTo] at h
    cases hf : findTo t x i with
    | some m =>
      rw [hf] at h
      obtain rfl : m = k := by simpa using h
      have := ih hf
      exact ⟨by omega, this.2⟩
    | none =>
      rw [hf] at h
      simp only at h
      split at h
      · rename_i hc
        obtain rfl : i = k := by simpa using h
        exact ⟨by omega, hc⟩
      · cases h
theorem findI_hit {t x : ByteArray} {i : Nat} (h : findTo t x i = none) (h1 : i + x.size ≤ t.size) (h2 : isAt t x i = true) : findI t x = i := by
  have h3 := findTo_keep (findTo_hit h h1 h2) (t.size - i)
  unfold findI findN
  rw [show t.size + 1 = i + 1 + (t.size - i) by omega, h3]
theorem findI_none {t x : ByteArray} {i : Nat} (h : findTo t x i = none) (hi : t.size < i + x.size) (hle : i ≤ t.size + 1) : findI t x = -1 := by
  have h3 := findTo_after h hi (t.size + 1 - i)
  unfold findI findN
  rw [show t.size + 1 = i + (t.size + 1 - i) by omega, h3]
/-- the number of the first i bytes as digits -/
def numTo (t : ByteArray) : Nat → Nat
  | 0 => 0
  | i + 1 => if h : i < t.size then 10 * numTo t i + (t[i].toNat - 48) else numTo t i
theorem numTo_succ {t : ByteArray} {i : Nat} (h : i < t.size) : numTo t (i + 1) = 10 * numTo t i + (t[i].toNat - 48) := by rw [numTo, dif_pos h]
theorem numTo_lt (t : ByteArray) (hd : ∀ i (h : i < t.size), 48 ≤ t[i].toNat ∧ t[i].toNat ≤ 57) (i : Nat) : numTo t i < 10 ^ i := by
  induction i with
  | zero => exact (by decide : 0 < 10 ^ 0)
  | succ i ih =>
    rw [numTo, Nat.pow_succ]
    split
    · rename_i h
      have := hd i h
      omega
    · omega
def digC (c : Nat) : Bool := decide (48 ≤ c ∧ c ≤ 57)
/-- digits that are no number of at most nine of them: -1 -/
def numI (t : ByteArray) : Int := if 1 ≤ t.size ∧ t.size ≤ 9 ∧ (1 < t.size → ∀ h : 0 < t.size, ¬ t[0].toNat = 48) ∧ ∀ i (h : i < t.size), digC t[i].toNat = true then (numTo t t.size : Int) else -1
theorem numI_size {t : ByteArray} (h : t.size < 1 ∨ 9 < t.size) : numI t = -1 := by
  unfold numI; rw [if_neg]; rintro ⟨a, b, _⟩; omega
theorem numI_first {t : ByteArray} (h : 1 < t.size) (hc : t[0].toNat = 48) : numI t = -1 := by
  unfold numI; rw [if_neg]; rintro ⟨_, _, a, _⟩; exact a h (by omega) hc
theorem numI_at {t : ByteArray} (k : Nat) (h : k < t.size) (hk : digC t[k].toNat = false) : numI t = -1 := by
  unfold numI; rw [if_neg]; rintro ⟨_, _, _, c⟩; rw [c k h] at hk; cases hk
theorem numI_yes {t : ByteArray} (h1 : 1 ≤ t.size) (h2 : t.size ≤ 9) (h3 : 1 < t.size → ∀ h : 0 < t.size, ¬ t[0].toNat = 48) (h : ∀ i (h : i < t.size), digC t[i].toNat = true) : numI t = numTo t t.size := by
  unfold numI; rw [if_pos ⟨h1, h2, h3, h⟩]
theorem digC_yes {c : Nat} (h : 48 ≤ c ∧ c ≤ 57) : digC c = true := by unfold digC; rw [decide_eq_true_iff]; exact h
theorem digC_no {c : Nat} (h : ¬ (48 ≤ c ∧ c ≤ 57)) : digC c = false := by unfold digC; rw [decide_eq_false_iff_not]; exact h
theorem digC_of {c : Nat} (h : digC c = true) : 48 ≤ c ∧ c ≤ 57 := by unfold digC at h; rwa [decide_eq_true_iff] at h
end Go.Proofs.YtfoekelhcmlagaaDoor

/- The walks of the specification's l02Find (from place 0 on) and l02Num. -/
namespace Go.Proofs.YtfoekelhcmlagaaDoor
open Go.RowKit

set_option maxRecDepth 10000 in
set_option maxHeartbeats 400000 in
theorem specFind_any (t x : ByteArray) (w : World) (ht : t.size ≤ 1048576) (hx : x.size ≤ 1048576) :
    Calls Tryd.prog 88 #[.string t, .int .i64 0, .string x] w fun e w' => e = .returned (.int .i64 (findI t x)) ∧ w' = w := by
  go_enter Tryd.func88, Tryd.ntmps88
  go_wp2
  go_loop [7] (fun i => ∃ k : Nat, k ≤ t.size + 1 ∧ i = .int .i64 k ∧ Hid (findTo t x k = none)) (fun i => t.size + 1 - (intOf i).toNat)
  case atStart => exact ⟨0, by omega, rfl, rfl⟩
  case round =>
    obtain ⟨k, hk, rfl, HN⟩ := hrel
    by_cases hle : k + x.size ≤ t.size
    · cases hat : isAt t x k with
      | true =>
        have HF : Hid (findI t x = k) := findI_hit HN.out hle hat
        have q : ((t.extract k (k + x.size)).toList == x.toList) = true := hat
        clear hat
        go_wp2
        go_ret
        exact ⟨ret_int HF.out.symm, rfl⟩
      | false =>
        have HF : Hid (findTo t x (k + 1) = none) := findTo_miss HN.out (by rw [hat]; simp)
        have q : ((t.extract k (k + x.size)).toList == x.toList) = false := hat
        clear hat
        go_wp2
        go_round
        case rel => exact ⟨k + 1, by omega, by go_num, HF⟩
        case measure => simp [intOf]; omega
    · have HF : Hid (findI t x = -1) := findI_none HN.out (by omega) hk
      go_wp2
      go_ret
      exact ⟨ret_int HF.out.symm, rfl⟩
end Go.Proofs.YtfoekelhcmlagaaDoor

/- A text's pieces between '; ', a piece cut at its first '='; the walks of the specification's l04Pieces and l04Pair. -/
namespace Go.Proofs.YtfoekelhcmlagaaDoor
open Go.RowKit

theorem find_in {t x : ByteArray} (h : 0 ≤ findI t x) : (findI t x).toNat + x.size ≤ t.size ∧ findI t x = ((findI t x).toNat : Int) := by
  refine ⟨?_, by omega⟩
  unfold findI findN at *
  cases hf : findTo t x (t.size + 1) with
  | some k =>
    have := (findTo_lt hf).2.1
    simpa using this
  | none => rw [hf] at h; simp at h
theorem findI_neg {t x : ByteArray} (h : ¬ 0 ≤ findI t x) : findI t x = -1 := by
  unfold findI findN at *
  cases hf : findTo t x (t.size + 1) with
  | some k => rw [hf] at h; simp at h
  | none => rfl
/-- '; ' -/
def semi : ByteArray := ⟨#[59, 32]⟩
/-- the pieces of a text between '; ' -/
def piecesL (t : ByteArray) : List ByteArray :=
  if h : 0 ≤ findI t semi then t.extract 0 (findI t semi).toNat :: piecesL (t.extract ((findI t semi).toNat + 2) t.size) else [t]
termination_by t.size
decreasing_by
  have := (find_in h).1
  have e : semi.size = 2 := rfl
  rw [e] at this
  rw [ByteArray.size_extract]; omega
theorem piecesL_more {t : ByteArray} {k : Nat} (h : findI t semi = k) : piecesL t = t.extract 0 k :: piecesL (t.extract (k + 2) t.size) := by
  rw [piecesL, dif_pos (by omega)]
  have e : (findI t semi).toNat = k := by omega
  rw [e]
theorem piecesL_last {t : ByteArray} (h : ¬ 0 ≤ findI t semi) : piecesL t = [t] := by rw [piecesL, dif_neg h]
theorem piecesL_len (t : ByteArray) : (piecesL t).length ≤ t.size + 1 := by
  generalize hn : t.size = n
  induction n using Nat.strongRecOn generalizing t with
  | _ n ih =>
    by_cases h : 0 ≤ findI t semi
    · obtain ⟨h1, h2⟩ := find_in h
      have e : semi.size = 2 := rfl
      rw [e] at h1
      have hz : (t.extract ((findI t semi).toNat + 2) t.size).size = t.size - ((findI t semi).toNat + 2) := by rw [ByteArray.size_extract]; omega
      rw [piecesL_more h2, List.length_cons]
      have := ih _ (by omega) (t.extract ((findI t semi).toNat + 2) t.size) hz
      omega
    · rw [piecesL_last h]; simp
theorem piecesL_small (t : ByteArray) : ∀ x ∈ piecesL t, x.size ≤ t.size := by
  generalize hn : t.size = n
  induction n using Nat.strongRecOn generalizing t with
  | _ n ih =>
    intro x hx
    by_cases h : 0 ≤ findI t semi
    · obtain ⟨h1, h2⟩ := find_in h
      have e : semi.size = 2 := rfl
      rw [e] at h1
      have hz : (t.extract ((findI t semi).toNat + 2) t.size).size = t.size - ((findI t semi).toNat + 2) := by rw [ByteArray.size_extract]; omega
      rw [piecesL_more h2, List.mem_cons] at hx
      rcases hx with hx | hx
      · rw [hx, ByteArray.size_extract]; omega
      · have := ih _ (by omega) (t.extract ((findI t semi).toNat + 2) t.size) hz x hx
        omega
    · rw [piecesL_last h, List.mem_singleton] at hx
      rw [hx]; omega
def szV : Value → Nat
  | .string s => s.size
  | _ => 0

end Go.Proofs.YtfoekelhcmlagaaDoor

/- A piece cut at its first '='; the walk of the specification's l04Pair. -/
namespace Go.Proofs.YtfoekelhcmlagaaDoor
open Go.RowKit

/-- '=' -/
def equ : ByteArray := ⟨#[61]⟩
/-- a piece's name and value -/
def pairP (t : ByteArray) : ByteArray × ByteArray := if 0 ≤ findI t equ then (t.extract 0 (findI t equ).toNat, t.extract ((findI t equ).toNat + 1) t.size) else (t, ⟨#[]⟩)
theorem pairP_yes {t : ByteArray} {k : Nat} (h : findI t equ = k) : pairP t = (t.extract 0 k, t.extract (k + 1) t.size) := by
  have e : (findI t equ).toNat = k := by omega
  rw [pairP, if_pos (by omega), e]
theorem pairP_no {t : ByteArray} (h : ¬ 0 ≤ findI t equ) : pairP t = (t, ⟨#[]⟩) := by rw [pairP, if_neg h]
theorem pairP_size (t : ByteArray) : (pairP t).1.size ≤ t.size ∧ (pairP t).2.size ≤ t.size := by
  unfold pairP
  split
  · exact ⟨by rw [ByteArray.size_extract]; omega, by rw [ByteArray.size_extract]; omega⟩
  · exact ⟨Nat.le_refl _, Nat.zero_le _⟩

end Go.Proofs.YtfoekelhcmlagaaDoor

/- The walks of the program's pairRight and pairText. Written by implset.py. -/
namespace Go.Proofs.YtfoekelhcmlagaaDoor
open Go.RowKit

set_option maxRecDepth 10000 in
set_option maxHeartbeats 2000000 in
theorem pairRight_any (na va : ByteArray) (w : World) :
    Calls Tryd.prog 109 #[pairV na va] w fun e w' => e = .returned (.bool (pairB na va)) ∧ Below w.heap.size w w' := by
  have K1 : Hid (∀ W, Calls Tryd.prog 150 #[.string na] W fun e w' => e = .returned (.bool (wordB na)) ∧ w' = W) := fun W => wordRight_any na W
  have K2 : Hid (∀ W, Calls Tryd.prog 150 #[.string va] W fun e w' => e = .returned (.bool (wordB va)) ∧ w' = W) := fun W => wordRight_any va W
  have HP : Hid (pairB na va = (!na.toList.isEmpty && wordB na && wordB va)) := rfl
  generalize pairB na va = R at *
  generalize wordB na = b1 at *
  generalize wordB va = b2 at *
  unfold pairV
  cases he : na.toList.isEmpty with
  | true =>
    have HR : Hid (R = false) := by show _ = _; rw [HP.out, he]; rfl
    go_enter Tryd.func109, Tryd.ntmps109
    go_wp2
    go_ret
    exact ⟨ret_bool HR.out.symm, (Below.refl _ _).alloc (Nat.le_refl _) _⟩
  | false =>
    cases b1 with
    | false =>
      have HR : Hid (R = false) := by show _ = _; rw [HP.out, he]; rfl
      go_enter Tryd.func109, Tryd.ntmps109
      go_wp2_with fail
      refine (K1.out _).mono ?_
      rintro e w1 ⟨rfl, rfl⟩
      go_wp2
      go_ret
      exact ⟨ret_bool HR.out.symm, (Below.refl _ _).alloc (Nat.le_refl _) _⟩
    | true =>
      have HR : Hid (R = b2) := by show _ = _; rw [HP.out, he]; cases b2 <;> rfl
      go_enter Tryd.func109, Tryd.ntmps109
      go_wp2_with fail
      refine (K1.out _).mono ?_
      rintro e w1 ⟨rfl, rfl⟩
      go_wp2_with fail
      refine (K2.out _).mono ?_
      rintro e w2 ⟨rfl, rfl⟩
      go_wp2
      go_ret
      exact ⟨ret_bool HR.out.symm, (Below.refl _ _).alloc (Nat.le_refl _) _⟩
end Go.Proofs.YtfoekelhcmlagaaDoor

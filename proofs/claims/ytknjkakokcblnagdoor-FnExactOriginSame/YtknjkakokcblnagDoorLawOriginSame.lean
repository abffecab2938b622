/- The law FnExactOriginSame, walked, over what the program's OriginSame answers. -/
import Derived.Test.YtknjkakokcblnagDoorLawOrigin
import Derived.Deep.RegionHeld3
namespace Go.Proofs.YtknjkakokcblnagDoor
open Go.RowKit

/-- two Origins lie boxed at blocks g and g + 1 -/
def TwoAt (w : World) (g : Nat) (sc ho : ByteArray) (po no : Int) (sc2 ho2 : ByteArray) (po2 no2 : Int) : Prop :=
  g + 1 < w.heap.size ∧ (w.cell? ⟨g, 0, none⟩ = some (.string sc) ∧ w.cell? ⟨g, 1, none⟩ = some (.string ho) ∧ w.cell? ⟨g, 2, none⟩ = some (.int .i64 po) ∧ w.cell? ⟨g, 3, none⟩ = some (.int .i64 no)) ∧
  (w.cell? ⟨g + 1, 0, none⟩ = some (.string sc2) ∧ w.cell? ⟨g + 1, 1, none⟩ = some (.string ho2) ∧ w.cell? ⟨g + 1, 2, none⟩ = some (.int .i64 po2) ∧ w.cell? ⟨g + 1, 3, none⟩ = some (.int .i64 no2))
theorem TwoAt.below {w w' : World} {g : Nat} {sc ho : ByteArray} {po no : Int} {sc2 ho2 : ByteArray} {po2 no2 : Int} (h : TwoAt w g sc ho po no sc2 ho2 po2 no2) (hb : Below w.heap.size w w') : TwoAt w' g sc ho po no sc2 ho2 po2 no2 := by
  obtain ⟨hz, ⟨a0, a1, a2, a3⟩, b0, b1, b2, b3⟩ := h
  have hc := (bcell hb).1
  have hs := hb.size
  exact ⟨by omega, ⟨by rw [hc _ _ (by omega)]; exact a0, by rw [hc _ _ (by omega)]; exact a1, by rw [hc _ _ (by omega)]; exact a2, by rw [hc _ _ (by omega)]; exact a3⟩,
    by rw [hc _ _ (by omega)]; exact b0, by rw [hc _ _ (by omega)]; exact b1, by rw [hc _ _ (by omega)]; exact b2, by rw [hc _ _ (by omega)]; exact b3⟩
theorem TwoAt.made (w : World) (sc ho : ByteArray) (po no : Int) (sc2 ho2 : ByteArray) (po2 no2 : Int) (t : TypeId) :
    TwoAt ((w.alloc (.cells #[.string sc, .string ho, .int .i64 po, .int .i64 no] t)).alloc (.cells #[.string sc2, .string ho2, .int .i64 po2, .int .i64 no2] t)) w.heap.size sc ho po no sc2 ho2 po2 no2 := by
  refine ⟨by simp, ⟨?_, ?_, ?_, ?_⟩, ?_, ?_, ?_, ?_⟩
  · rw [World.cell?_alloc_lt _ _ ⟨w.heap.size, 0, none⟩ (by simp)]; simp
  · rw [World.cell?_alloc_lt _ _ ⟨w.heap.size, 1, none⟩ (by simp)]; simp
  · rw [World.cell?_alloc_lt _ _ ⟨w.heap.size, 2, none⟩ (by simp)]; simp
  · rw [World.cell?_alloc_lt _ _ ⟨w.heap.size, 3, none⟩ (by simp)]; simp
  · rw [World.cell?_alloc_at _ _ _ _ (by simp)]; rfl
  · rw [World.cell?_alloc_at _ _ _ _ (by simp)]; rfl
  · rw [World.cell?_alloc_at _ _ _ _ (by simp)]; rfl
  · rw [World.cell?_alloc_at _ _ _ _ (by simp)]; rfl

set_option maxHeartbeats 2000000 in
theorem lawOriginSame_of (w : World) (hI : ∀ (sc ho : ByteArray) (po no : Int) (sc2 ho2 : ByteArray) (po2 no2 : Int) (W : World), Below w.heap.size w W → sc.size + ho.size ≤ 1048576 → sc2.size + ho2.size ≤ 1048576 → Calls Tryd.prog 23 #[originV sc ho po no, originV sc2 ho2 po2 no2] W fun e w' => e = .returned (.bool (sameO sc ho po no sc2 ho2 po2 no2)) ∧ Below W.heap.size W w')
    (sc ho : ByteArray) (po no : Int) (sc2 ho2 : ByteArray) (po2 no2 : Int) (h1 : sc.size ≤ maxLen) (h2 : ho.size ≤ maxLen) (h3 : sc2.size ≤ maxLen) (h4 : ho2.size ≤ maxLen) :
    Calls Tryd.prog 7 #[originV sc ho po no, originV sc2 ho2 po2 no2] w fun e w' => e = .returned (.bool true) ∧ Below w.heap.size w w' := by
  have H1 : Hid (∀ W, Calls Tryd.prog 11 #[originV sc ho po no, .int .i64 1048576] W fun e w' => (∃ r : Int, e = .returned (.int .i64 r) ∧ (r < 0 ∨ (0 ≤ r ∧ r ≤ 1048576 ∧ sc.size + ho.size ≤ 1048576))) ∧ Below W.heap.size W w') := fun W => szOrigin_any sc ho po no 1048576 W h1 h2 (by omega) (by omega)
  have H2 : Hid (∀ l W, 0 ≤ l → l ≤ 1048576 → Calls Tryd.prog 11 #[originV sc2 ho2 po2 no2, .int .i64 l] W fun e w' => (∃ r : Int, e = .returned (.int .i64 r) ∧ (r < 0 ∨ (0 ≤ r ∧ r ≤ 1048576 ∧ sc2.size + ho2.size ≤ 1048576))) ∧ Below W.heap.size W w') := fun l W a b => szOrigin_any sc2 ho2 po2 no2 l W h3 h4 a b
  have HA : Hid (∀ W, Calls Tryd.prog 13 #[originV sc ho po no] W fun e w' => e = .returned (originV sc ho po no) ∧ Below W.heap.size W w') := fun W => toOrigin_any sc ho po no W
  have HB : Hid (∀ W, Calls Tryd.prog 13 #[originV sc2 ho2 po2 no2] W fun e w' => e = .returned (originV sc2 ho2 po2 no2) ∧ Below W.heap.size W w') := fun W => toOrigin_any sc2 ho2 po2 no2 W
  have H3 : Hid (∀ W, Calls Tryd.prog 22 #[originV sc ho po no, originV sc2 ho2 po2 no2] W fun e w' => e = .returned (.bool (sameO sc ho po no sc2 ho2 po2 no2)) ∧ Below W.heap.size W w') := fun W => specOriginSame_any sc ho po no sc2 ho2 po2 no2 W
  have H4 : Hid (∀ W, Below w.heap.size w W → sc.size + ho.size ≤ 1048576 → sc2.size + ho2.size ≤ 1048576 → Calls Tryd.prog 23 #[originV sc ho po no, originV sc2 ho2 po2 no2] W fun e w' => e = .returned (.bool (sameO sc ho po no sc2 ho2 po2 no2)) ∧ Below W.heap.size W w') := fun W hb a b => hI sc ho po no sc2 ho2 po2 no2 W hb a b
  clear h1 h2 h3 h4 hI
  generalize sameO sc ho po no sc2 ho2 po2 no2 = b at *
  have HM : Hid (TwoAt ((w.alloc (.cells #[.string sc, .string ho, .int .i64 po, .int .i64 no] 30)).alloc (.cells #[.string sc2, .string ho2, .int .i64 po2, .int .i64 no2] 30)) w.heap.size sc ho po no sc2 ho2 po2 no2) := TwoAt.made w sc ho po no sc2 ho2 po2 no2 _
  unfold originV at *
  go_enter Tryd.func7, Tryd.ntmps7
  go_wp2_with fail
  refine (H1.out _).mono ?_
  rintro e w1 ⟨⟨r, rfl, hr⟩, hb1⟩
  have T1 := HM.out.below hb1
  have HB1 : Hid (Below w.heap.size w w1) := (((Below.refl _ _).alloc (Nat.le_refl _) _).alloc (by simp) _).trans (hb1.mono (by simp; omega))
  have TT1 : Hid (TwoAt w1 w.heap.size sc ho po no sc2 ho2 po2 no2) := T1
  obtain ⟨hz1, ⟨a0, a1, a2, a3⟩, b0, b1, b2, b3⟩ := T1
  clear hb1 HM
  rcases hr with hr | ⟨hr, hr2, hsum⟩
  · go_wp2
    go_ret
    exact ⟨rfl, HB1.out⟩
  have q : decide (r < 0) = false := by rw [decide_eq_false_iff_not]; omega
  go_wp2_with fail
  refine (H2.out r _ hr hr2).mono ?_
  rintro e w2 ⟨⟨r', rfl, hr'⟩, hb2⟩
  have T2 := TT1.out.below hb2
  have HB2 : Hid (Below w.heap.size w w2) := HB1.out.trans (hb2.mono (by omega))
  have TT2 : Hid (TwoAt w2 w.heap.size sc ho po no sc2 ho2 po2 no2) := T2
  clear a0 a1 a2 a3 b0 b1 b2 b3 hz1 hb2 TT1
  obtain ⟨hz2, ⟨a0, a1, a2, a3⟩, b0, b1, b2, b3⟩ := T2
  rcases hr' with hr' | ⟨hr', _, hsum2⟩
  · go_wp2
    go_ret
    exact ⟨rfl, HB2.out⟩
  have q' : decide (r' < 0) = false := by rw [decide_eq_false_iff_not]; omega
  go_wp2_with fail
  go_region_held3 (fun w' => w.heap.size + 1 < w'.heap.size ∧ w'.cell? ⟨w.heap.size, 0, none⟩ = some (.string sc) ∧ w'.cell? ⟨w.heap.size, 1, none⟩ = some (.string ho) ∧ w'.cell? ⟨w.heap.size, 2, none⟩ = some (.int .i64 po) ∧ w'.cell? ⟨w.heap.size, 3, none⟩ = some (.int .i64 no) ∧ w'.cell? ⟨w.heap.size + 1, 0, none⟩ = some (.string sc2) ∧ w'.cell? ⟨w.heap.size + 1, 1, none⟩ = some (.string ho2) ∧ w'.cell? ⟨w.heap.size + 1, 2, none⟩ = some (.int .i64 po2) ∧ w'.cell? ⟨w.heap.size + 1, 3, none⟩ = some (.int .i64 no2)) (go_keep)
      (first
        | (go_at_call_of 13 (Value.agg #[.string sc, .string ho, .int .i64 po, .int .i64 no]); refine (HA.out _).mono ?_; rintro e wA ⟨rfl, hbA⟩; have TA := TwoAt.below (g := w.heap.size) (sc := sc) (ho := ho) (po := po) (no := no) (sc2 := sc2) (ho2 := ho2) (po2 := po2) (no2 := no2) (by unfold TwoAt; go_keep) hbA; obtain ⟨zA, ⟨p0A, p1A, p2A, p3A⟩, q0A, q1A, q2A, q3A⟩ := TA)
        | (go_at_call_of 13 (Value.agg #[.string sc2, .string ho2, .int .i64 po2, .int .i64 no2]); refine (HB.out _).mono ?_; rintro e wB ⟨rfl, hbB⟩; have TB := TwoAt.below (g := w.heap.size) (sc := sc) (ho := ho) (po := po) (no := no) (sc2 := sc2) (ho2 := ho2) (po2 := po2) (no2 := no2) (by unfold TwoAt; go_keep) hbB; obtain ⟨zB, ⟨p0B, p1B, p2B, p3B⟩, q0B, q1B, q2B, q3B⟩ := TB)
        | (go_at_call 22; refine (H3.out _).mono ?_; rintro e wC ⟨rfl, hbC⟩; have TC := TwoAt.below (g := w.heap.size) (sc := sc) (ho := ho) (po := po) (no := no) (sc2 := sc2) (ho2 := ho2) (po2 := po2) (no2 := no2) (by unfold TwoAt; go_keep) hbC; obtain ⟨zC, ⟨p0C, p1C, p2C, p3C⟩, q0C, q1C, q2C, q3C⟩ := TC))
  have K1 : Hid (Below w.heap.size w wC) := ((HB2.out.trans (Below.drew (Below.refl _ _))).trans (hbA.mono (by simp; omega))).trans ((hbB.mono (by omega)).trans (hbC.mono (by omega)))
  clear hbA hbB hbC zA p0A p1A p2A p3A q0A q1A q2A q3A zB p0B p1B p2B p3B q0B q1B q2B q3B a0 a1 a2 a3 b0 b1 b2 b3 hz2 TT2
  go_wp2_with fail
  go_region_held3 (fun w' => w.heap.size + 1 < w'.heap.size ∧ w'.cell? ⟨w.heap.size, 0, none⟩ = some (.string sc) ∧ w'.cell? ⟨w.heap.size, 1, none⟩ = some (.string ho) ∧ w'.cell? ⟨w.heap.size, 2, none⟩ = some (.int .i64 po) ∧ w'.cell? ⟨w.heap.size, 3, none⟩ = some (.int .i64 no) ∧ w'.cell? ⟨w.heap.size + 1, 0, none⟩ = some (.string sc2) ∧ w'.cell? ⟨w.heap.size + 1, 1, none⟩ = some (.string ho2) ∧ w'.cell? ⟨w.heap.size + 1, 2, none⟩ = some (.int .i64 po2) ∧ w'.cell? ⟨w.heap.size + 1, 3, none⟩ = some (.int .i64 no2)) (go_keep)
      (first
        | (go_at_call_of 13 (Value.agg #[.string sc, .string ho, .int .i64 po, .int .i64 no]); refine (HA.out _).mono ?_; rintro e wD ⟨rfl, hbD⟩; have TD := TwoAt.below (g := w.heap.size) (sc := sc) (ho := ho) (po := po) (no := no) (sc2 := sc2) (ho2 := ho2) (po2 := po2) (no2 := no2) (by unfold TwoAt; go_keep) hbD; obtain ⟨zD, ⟨p0D, p1D, p2D, p3D⟩, q0D, q1D, q2D, q3D⟩ := TD)
        | (go_at_call_of 13 (Value.agg #[.string sc2, .string ho2, .int .i64 po2, .int .i64 no2]); refine (HB.out _).mono ?_; rintro e wE ⟨rfl, hbE⟩; have TE := TwoAt.below (g := w.heap.size) (sc := sc) (ho := ho) (po := po) (no := no) (sc2 := sc2) (ho2 := ho2) (po2 := po2) (no2 := no2) (by unfold TwoAt; go_keep) hbE; obtain ⟨zE, ⟨p0E, p1E, p2E, p3E⟩, q0E, q1E, q2E, q3E⟩ := TE)
        | (go_at_call 23; refine (H4.out _ (((K1.out.trans (Below.drew (Below.refl _ _))).trans (hbD.mono (by simp; omega))).trans (hbE.mono (by omega))) hsum hsum2).mono ?_; rintro e wF ⟨rfl, hbF⟩; have TF := TwoAt.below (g := w.heap.size) (sc := sc) (ho := ho) (po := po) (no := no) (sc2 := sc2) (ho2 := ho2) (po2 := po2) (no2 := no2) (by unfold TwoAt; go_keep) hbF; obtain ⟨zF, ⟨p0F, p1F, p2F, p3F⟩, q0F, q1F, q2F, q3F⟩ := TF))
  go_wp2
  go_ret
  exact ⟨rfl, ((K1.out.trans (Below.drew (Below.refl _ _))).trans (hbD.mono (by simp; omega))).trans ((hbE.mono (by omega)).trans (hbF.mono (by omega)))⟩
end Go.Proofs.YtknjkakokcblnagDoor

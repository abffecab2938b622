/- The law FnExactLabelsOf, walked, over what the program's LabelsOf answers. -/
import Derived.Test.YtknjkakokcblnafDoorSpecLabels
import Derived.Test.YtknjkakokcblnafDoorMarkS
namespace Go.Proofs.YtknjkakokcblnafDoor
open Go.RowKit

/-- a right host's labels, else none -/
def labelsL (s : ByteArray) : List ByteArray := if hostB s = true then splitB s 46 else []
theorem labelsL_len (s : ByteArray) : (labelsL s).length ≤ 101 := by
  unfold labelsL
  split
  · rename_i h
    have hsz : s.size ≤ 100 := by
      by_cases hz : 100 < s.size
      · rw [hostB_size hz] at h; cases h
      · omega
    have := splitB_len s 46
    omega
  · simp
def atL (L : List ByteArray) (j : Nat) : ByteArray := L.getD j ⟨#[]⟩
theorem slice_of_own {w : World} {B : Nat} {t : TypeId} {v : Value} {L : List ByteArray} (h : w.ownsRow B t 1 v L.length (strCells L)) : SliceS w B v L.length (atL L) := by
  obtain ⟨h1, ⟨rfl, h0⟩ | ⟨g, cap, cur, rfl, hg, h3, h4, h5, h6, h7⟩⟩ := h
  · exact ⟨none, 0, by rw [h0], fun h => absurd h (by omega)⟩
  · refine ⟨_, cap, rfl, fun hn => ⟨g, rfl, hg, ?_, fun j hj => ?_⟩⟩
    · exact (Array.getElem?_eq_some_iff.mp h3).1
    · have e : cur[j]? = some (.string (atL L j)) := by
        have e1 : (cur.toList.take (L.length * 1))[j]? = (strCells L)[j]? := by rw [h7]
        rw [List.getElem?_take_of_lt (by omega)] at e1
        rw [← Array.getElem?_toList, e1]
        simp [strCells, atL, hj]
      refine ⟨?_, ?_⟩
      · simp [World.cell?, h3, e]
      · simp [World.frozen?, h3]

set_option maxHeartbeats 400000 in
theorem specLabelsOf_any (s : ByteArray) (w : World) :
    Calls Tryd.prog 9 #[.string s] w fun e w' => ∃ v, e = .returned v ∧ SliceS w' w.heap.size v (labelsL s).length (atL (labelsL s)) ∧ Below w.heap.size w w' := by
  by_cases h : hostB s = true
  · refine (specLabelsOf_yes s w h).mono ?_
    rintro e w' ⟨v, rfl, ho, hb⟩
    refine ⟨v, rfl, ?_, hb⟩
    rw [labelsL, if_pos h]
    exact slice_of_own ho
  · refine (specLabelsOf_no s w (by simpa using h)).mono ?_
    rintro e w' ⟨v, rfl, ho, hb⟩
    refine ⟨v, rfl, ?_, hb⟩
    rw [labelsL, if_neg h]
    exact slice_of_own (L := []) ho

theorem SliceS.far {w w' : World} {B n : Nat} {v : Value} {f : Nat → ByteArray} {K : Nat} (h : SliceS w B v n f) (hK : w.heap.size ≤ K) {u : World} (hs : SliceS u B v n f) (hb : Below K u w') : SliceS w' B v n f := by
  cases n with
  | zero =>
    obtain ⟨p, cap, rfl, h⟩ := hs
    exact ⟨p, cap, rfl, fun h => absurd h (by omega)⟩
  | succ n => exact hs.kept hb (fun g cap m e => Nat.lt_of_lt_of_le (h.lt g cap m e) hK)

set_option maxHeartbeats 1000000 in
theorem lawLabelsOf_of (w : World) (hI : ∀ (s : ByteArray) (W : World), Below w.heap.size w W → s.size ≤ 1048576 → Calls Tryd.prog 10 #[.string s] W fun e w' => ∃ v, e = .returned v ∧ SliceS w' W.heap.size v (labelsL s).length (atL (labelsL s)) ∧ Below W.heap.size W w')
    (s : ByteArray) :
    Calls Tryd.prog 4 #[.string s] w fun e w' => e = .returned (.bool true) ∧ Below w.heap.size w w' := by
  by_cases h1 : 1048576 < s.size
  · go_enter Tryd.func4, Tryd.ntmps4
    go_wp2
    go_ret
    exact ⟨rfl, Below.refl _ _⟩
  · have H1 : Hid (∀ W, Calls Tryd.prog 9 #[.string s] W fun e w' => ∃ v, e = .returned v ∧ SliceS w' W.heap.size v (labelsL s).length (atL (labelsL s)) ∧ Below W.heap.size W w') := fun W => specLabelsOf_any s W
    have H2 : Hid (∀ W, Below w.heap.size w W → Calls Tryd.prog 10 #[.string s] W fun e w' => ∃ v, e = .returned v ∧ SliceS w' W.heap.size v (labelsL s).length (atL (labelsL s)) ∧ Below W.heap.size W w') := fun W hb => hI s W hb (by omega)
    have hn := labelsL_len s
    clear hI
    generalize (labelsL s).length = n at *
    generalize atL (labelsL s) = f at *
    go_enter Tryd.func4, Tryd.ntmps4
    go_wp2_with fail
    refine (H1.out _).mono ?_
    rintro e w1 ⟨v1, rfl, hs1, hb1⟩
    go_wp2_with fail
    refine (H2.out _ hb1).mono ?_
    rintro e w2 ⟨v2, rfl, hs2, hb2⟩
    have HS2 : Hid (SliceS w2 w1.heap.size v2 n f) := hs2
    have hs12 := hs1.below hb2
    have z1 := hb1.size
    have z2 := hb2.size
    go_wp2_with fail
    refine (eqStringS_any v2 v1 n _ _ f _ hs2 hs12 (by omega)).mono ?_
    rintro e w3 ⟨rfl, hb3⟩
    have hs23 := hs2.below hb3
    have hs13 := hs12.below hb3
    have z3 := hb3.size
    go_wp2_with fail
    refine (markStringS_any v2 n _ 1 f _ hs23 (by omega) (by omega) (by omega)).mono ?_
    rintro e w4 ⟨rfl, hs24, hbm⟩
    have hb4 := hbm w1.heap.size (Nat.le_refl _) (by omega)
    have hs14 : SliceS w4 w.heap.size v1 n f := hs1.far (Nat.le_refl _) hs13 hb4
    have z4 := hb4.size
    go_wp2_with fail
    refine (heldStringS_any v2 n _ 1 _ hs24 (by omega) (by omega) (by omega)).mono ?_
    rintro e w5 ⟨rfl, hb5⟩
    have hs25 := hs24.below hb5
    have hs15 := hs14.below hb5
    have z5 := hb5.size
    have HB5 : Hid (Below w.heap.size w w5) := hb1.trans ((hb2.mono z1).trans ((hb3.mono (by omega)).trans ((hb4.mono z1).trans (hb5.mono (by omega)))))
    clear hb1 hb2 hb3 hb4 hb5 hbm hs1 hs2 hs12 hs23 hs13 hs14 hs24
    go_wp2_with fail
    refine (H2.out _ HB5.out).mono ?_
    rintro e w6 ⟨v3, rfl, hs6, hb6⟩
    have hs16 := hs15.below hb6
    have hs26 := hs25.below hb6
    have z6 := hb6.size
    go_wp2_with fail
    refine (eqStringS_any v3 v1 n _ _ f _ hs6 hs16 (by omega)).mono ?_
    rintro e w7 ⟨rfl, hb7⟩
    have hs27 := hs26.below hb7
    have z7 := hb7.size
    go_wp2_with fail
    refine (heldStringS_any v2 n _ 1 _ hs27 (by omega) (by omega) (by omega)).mono ?_
    rintro e w8 ⟨rfl, hb8⟩
    go_wp2
    go_ret
    exact ⟨rfl, HB5.out.trans ((hb6.mono (by omega)).trans ((hb7.mono (by omega)).trans (hb8.mono (by omega))))⟩
end Go.Proofs.YtknjkakokcblnafDoor

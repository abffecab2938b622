/- The law FnExactRulesRead, walked, over what the program's RulesRead answers. -/
import Derived.Test.YtddlnbmkknbegaaDoorSpecReadR
import Derived.Test.YtddlnbmkknbegaaDoorLawLabelsOf
namespace Go.Proofs.YtddlnbmkknbegaaDoor
open Go.RowKit

set_option maxRecDepth 10000 in
set_option maxHeartbeats 1000000 in
theorem lawReadR_of (w : World) (hI : ∀ (s : ByteArray) (W : World), Below w.heap.size w W → Calls Tryd.prog 26 #[.string s] W fun e w' => ∃ v, e = .returned v ∧ SliceS w' W.heap.size v (readR s).length (atL (readR s)) ∧ Below W.heap.size W w')
    (s : ByteArray) :
    Calls Tryd.prog 6 #[.string s] w fun e w' => e = .returned (.bool true) ∧ Below w.heap.size w w' := by
  by_cases h1 : 1048576 < s.size
  · go_enter Tryd.func6, Tryd.ntmps6
    go_wp2
    go_ret
    exact ⟨rfl, Below.refl _ _⟩
  · have H1 : Hid (∀ W, Calls Tryd.prog 25 #[.string s] W fun e w' => ∃ v, e = .returned v ∧ SliceS w' W.heap.size v (readR s).length (atL (readR s)) ∧ Below W.heap.size W w') := fun W => specReadR_any s W
    have H2 : Hid (∀ W, Below w.heap.size w W → Calls Tryd.prog 26 #[.string s] W fun e w' => ∃ v, e = .returned v ∧ SliceS w' W.heap.size v (readR s).length (atL (readR s)) ∧ Below W.heap.size W w') := fun W hb => hI s W hb
    have hn := readR_len s
    clear hI
    generalize (readR s).length = n at *
    generalize atL (readR s) = f at *
    go_enter Tryd.func6, Tryd.ntmps6
    go_wp2_with fail
    refine (H1.out _).mono ?_
    rintro e w1 ⟨v1, rfl, hs1, hb1⟩
    go_wp2_with fail
    refine (H2.out _ hb1).mono ?_
    rintro e w2 ⟨v2, rfl, hs2, hb2⟩
    have HS2 : Hid (SliceS w2 w1.heap.size v2 n f) := hs2
    have hs12 := hs1.below hb2
    have z1 := hb1.size
    have z2 := hb2.size
    go_wp2_with fail
    refine (eqStringS_any v2 v1 n _ _ f _ hs2 hs12 (by omega)).mono ?_
    rintro e w3 ⟨rfl, hb3⟩
    have hs23 := hs2.below hb3
    have hs13 := hs12.below hb3
    have z3 := hb3.size
    go_wp2_with fail
    refine (markStringS_any v2 n _ 1 f _ hs23 (by omega) (by omega) (by omega)).mono ?_
    rintro e w4 ⟨rfl, hs24, hbm⟩
    have hb4 := hbm w1.heap.size (Nat.le_refl _) (by omega)
    have hs14 : SliceS w4 w.heap.size v1 n f := hs1.far (Nat.le_refl _) hs13 hb4
    have z4 := hb4.size
    go_wp2_with fail
    refine (heldStringS_any v2 n _ 1 _ hs24 (by omega) (by omega) (by omega)).mono ?_
    rintro e w5 ⟨rfl, hb5⟩
    have hs25 := hs24.below hb5
    have hs15 := hs14.below hb5
    have z5 := hb5.size
    have HB5 : Hid (Below w.heap.size w w5) := hb1.trans ((hb2.mono z1).trans ((hb3.mono (by omega)).trans ((hb4.mono z1).trans (hb5.mono (by omega)))))
    clear hb1 hb2 hb3 hb4 hb5 hbm hs1 hs2 hs12 hs23 hs13 hs14 hs24
    go_wp2_with fail
    refine (H2.out _ HB5.out).mono ?_
    rintro e w6 ⟨v3, rfl, hs6, hb6⟩
    have hs16 := hs15.below hb6
    have hs26 := hs25.below hb6
    have z6 := hb6.size
    go_wp2_with fail
    refine (eqStringS_any v3 v1 n _ _ f _ hs6 hs16 (by omega)).mono ?_
    rintro e w7 ⟨rfl, hb7⟩
    have hs27 := hs26.below hb7
    have z7 := hb7.size
    go_wp2_with fail
    refine (heldStringS_any v2 n _ 1 _ hs27 (by omega) (by omega) (by omega)).mono ?_
    rintro e w8 ⟨rfl, hb8⟩
    go_wp2
    go_ret
    exact ⟨rfl, HB5.out.trans ((hb6.mono (by omega)).trans ((hb7.mono (by omega)).trans (hb8.mono (by omega))))⟩
end Go.Proofs.YtddlnbmkknbegaaDoor
